package learner_test

import (
	"runtime"
	"slices"
	"strings"
	"testing"
	"unsafe"

	"latchkey/api"
	"latchkey/learner"
)

// Rule R4.

// lent gives texts whose bytes may be written over.
type lent struct{ bytes [][]byte }

func (k *lent) text(s string) string {
	b := []byte(s)
	k.bytes = append(k.bytes, b)
	return unsafe.String(unsafe.SliceData(b), len(b))
}

// spoil writes over all bytes that were lent.
func (k *lent) spoil() {
	for _, b := range k.bytes {
		clear(b)
	}
}

func TestLearnKeepsNothing(t *testing.T) {
	k := &lent{}
	l, p := learner.New(0), plainNew(0)
	var told []api.Entry
	for _, slot := range []int{2, 5, 1, 7} {
		told = append(told, l.Learn(named(slot, 9, k.text("text")))...)
		p.learn(named(slot, 9, "text"))
	}
	k.spoil()
	mustBe(t, "what was told", told, []api.Entry{named(1, 9, "text"), named(2, 9, "text")})
	mustKnow(t, "behind the spoiling", l, p)
	mustBe(t, "Jump", l.Jump(4), []api.Entry{named(5, 9, "text")})
	mustBe(t, "Learn", l.Learn(named(6, 9, "text")), []api.Entry{named(6, 9, "text"), named(7, 9, "text")})
}

// texts gives a learner that knows "text" at 1, 2 (both applied) and 5, and the plain one.
func texts() (*learner.Learner, *plain) {
	l, p := learner.New(0), plainNew(0)
	for _, slot := range []int{2, 5, 1} {
		l.Learn(named(slot, 9, strings.Clone("text")))
		p.learn(named(slot, 9, "text"))
	}
	return l, p
}

// spoilEntries writes over the entries of a list, and over the bytes of their texts.
func spoilEntries(l []api.Entry) {
	for _, e := range l {
		spoilText(e.Cmd.Name)
	}
	clear(l[:cap(l)])
}

func spoilText(s string) { clear(unsafe.Slice(unsafe.StringData(s), len(s))) }

func TestWhatIsHandedOutIsNew(t *testing.T) {
	l, p := texts()
	since := l.Since(1, 9)
	spoilEntries(l.Since(1, 9))
	c, _ := l.Known(1)
	spoilText(c.Name)
	c, _ = l.Known(5)
	spoilText(c.Name)
	mustKnow(t, "behind the spoiling", l, p)
	mustBe(t, "another Since", since, p.since(1, 9))
	l.Learn(named(4, 9, strings.Clone("text")))
	p.learn(named(4, 9, "text"))
	spoilEntries(l.Learn(named(3, 9, strings.Clone("text"))))
	p.learn(named(3, 9, "text"))
	mustKnow(t, "behind the spoiling", l, p)
	l.Learn(named(8, 9, strings.Clone("text")))
	p.learn(named(8, 9, "text"))
	spoilEntries(l.Jump(7))
	p.jump(7)
	mustKnow(t, "behind the spoiling", l, p)
}

// What was handed out stays as it was, whatever is done behind it.
func TestWhatIsHandedOutStays(t *testing.T) {
	l, _ := texts()
	since := l.Since(1, 1)
	told := l.Learn(named(3, 9, "text"))
	jumped := l.Jump(4)
	for slot := 6; slot < 12; slot++ {
		l.Learn(named(slot, 9, "other"))
	}
	l.Forget(9)
	mustBe(t, "Since", since, []api.Entry{named(1, 9, "text")})
	mustBe(t, "Learn", told, []api.Entry{named(3, 9, "text")})
	mustBe(t, "Jump", jumped, []api.Entry{named(5, 9, "text")})
}

// No two answers have a text in common, nor one with what was handed in or is kept.
func TestTextsAreNotShared(t *testing.T) {
	l := learner.New(0)
	in := []api.Entry{named(2, 9, strings.Clone("text")), named(5, 9, strings.Clone("text")), named(1, 9, strings.Clone("text"))}
	all := slices.Clone(in)
	for _, e := range in {
		all = append(all, l.Learn(e)...)
	}
	all = append(append(all, l.Since(1, 9)...), l.Since(1, 9)...)
	var names []string
	for range 2 {
		for _, slot := range []int{1, 2, 5} {
			c, _ := l.Known(slot)
			names = append(names, c.Name)
		}
	}
	for _, e := range append(all, l.Jump(4)...) {
		names = append(names, e.Cmd.Name)
	}
	seen := map[*byte]int{}
	for i, s := range names {
		if was, there := seen[unsafe.StringData(s)]; there || s != "text" {
			t.Errorf("%q: the %dth shares memory with the %dth", s, i, was)
		}
		seen[unsafe.StringData(s)] = i
	}
	if len(names) != 6+3+2+4+1 {
		t.Fatalf("%d texts", len(names))
	}
}

// Two learners of the same entries are changed alone.
func TestLearnersShareNothing(t *testing.T) {
	l, p := texts()
	other, _ := texts()
	other.Forget(2)
	other.Jump(6)
	other.Learn(named(7, 9, "other"))
	mustKnow(t, "the first", l, p)
}

// What is forgotten, or jumped over, is not kept.
func TestTheForgottenIsNotKept(t *testing.T) {
	name := strings.Repeat("n", 1000)
	forgotten, jumped := learner.New(0), learner.New(0)
	const slots = 300000
	before := heap()
	for slot := 1; slot <= slots; slot++ {
		forgotten.Learn(named(slot, 9, name))
		forgotten.Forget(slot)
		if slot%3 > 0 { // of each three one is applied, and one waits
			jumped.Learn(named(slot+slot%3/2, 9, name))
		} else {
			jumped.Jump(slot)
		}
	}
	if after := heap(); after > before+1<<20 {
		t.Fatalf("%d bytes, then %d", before, after)
	}
	if forgotten.Applied() != slots || jumped.Applied() != slots {
		t.Fatalf("%d, %d", forgotten.Applied(), jumped.Applied())
	}
}

// heap tells how many bytes are kept.
func heap() uint64 {
	runtime.GC()
	var m runtime.MemStats
	runtime.ReadMemStats(&m)
	return m.HeapAlloc
}

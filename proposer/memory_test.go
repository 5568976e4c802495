package proposer_test

import (
	"runtime"
	"slices"
	"strings"
	"testing"
	"unsafe"

	"latchkey/api"
	"latchkey/proposer"
)

// Rule R4.

// lent gives texts whose bytes may be written over.
type lent struct{ bytes [][]byte }

func (k *lent) text(s string) string {
	b := []byte(s)
	k.bytes = append(k.bytes, b)
	return unsafe.String(unsafe.SliceData(b), len(b))
}

// spoil writes over all bytes that were lent.
func (k *lent) spoil() {
	for _, b := range k.bytes {
		clear(b)
	}
}

// rows are the entries of a promise that is lent, and behind its end two more.
func rows(text func(string) string) []api.Entry {
	return entries(named(4, 2, text("four")), named(2, 1, text("two")), named(2, 3, text("again")), named(7, 9, text("behind")), named(2, 9, text("behind")))
}

func TestPromiseKeepsNothing(t *testing.T) {
	for _, last := range []bool{false, true} { // it makes it ready, or is ahead of that
		k := &lent{}
		p, q := proposer.New(3, 9, 1), plainNew(3, 9, 1)
		if last {
			p.Promise(0, nil)
			q.promise(0, nil)
		}
		l := rows(k.text)[:3]
		p.Promise(1, l)
		q.promise(1, rows(strings.Clone)[:3])
		if !slices.Equal(l[:cap(l)], rows(strings.Clone)) {
			t.Fatalf("what was handed in was changed: %v", l[:cap(l)])
		}
		clear(l[:cap(l)])
		k.spoil()
		p.Promise(2, nil)
		q.promise(2, nil)
		mustKnow(t, "behind the spoiling", p, q)
		mustBe(t, "Values", p.Values(), entries(none(1, 9), named(2, 9, "again"), none(3, 9), named(4, 9, "four"), term(5, 9)))
	}
}

// A second promise finds the first one's list changed: that plays no part.
func TestPromiseComparesWithWhatItWasTold(t *testing.T) {
	p := proposer.New(3, 9, 1)
	l := entries(named(1, 5, "first"))
	p.Promise(0, l)
	l[0] = named(1, 1, "changed")
	p.Promise(1, entries(named(1, 4, "second")))
	mustBe(t, "Values", p.Values(), entries(named(1, 9, "first"), term(2, 9)))
}

func TestProposeKeepsNothing(t *testing.T) {
	k := &lent{}
	p := proposer.New(1, 9, 1)
	p.Promise(0, nil)
	e := p.Propose(command(k.text("a")))
	p.Chosen(1)
	f := p.Propose(command(k.text("b")))
	k.spoil()
	mustBe(t, "answers", entries(e, f), entries(named(2, 9, "a"), named(3, 9, "b")))
	mustBe(t, "Open", p.Open(), entries(named(2, 9, "a"), named(3, 9, "b")))
}

// lentOne is ready, and has values and proposals.
func lentOne(t *testing.T) both {
	x := readyBoth(t, 3, 9, 1, rows(strings.Clone)...)
	x.propose(command("a"))
	x.choose(3)
	x.propose(command("b"))
	return x
}

// spoilEntries writes over the entries of a list, and over the bytes of their texts.
func spoilEntries(l []api.Entry) {
	for _, e := range l {
		clear(unsafe.Slice(unsafe.StringData(e.Cmd.Name), len(e.Cmd.Name)))
	}
	clear(l[:cap(l)])
}

func TestWhatIsHandedOutIsNew(t *testing.T) {
	x := lentOne(t)
	proposed := x.propose(command(strings.Clone("c")))
	values, open := x.p.Values(), x.p.Open()
	for _, l := range [][]api.Entry{{proposed}, x.p.Values(), x.p.Open()} {
		spoilEntries(l)
		mustKnow(t, "behind the spoiling", x.p, x.q)
	}
	mustBe(t, "another Values", values, x.q.values)
	mustBe(t, "another Open", open, x.q.openEntries())
}

// What was handed out stays as it was, whatever is done behind it.
func TestWhatIsHandedOutStays(t *testing.T) {
	x := lentOne(t)
	values, open := x.p.Values(), x.p.Open()
	wantValues, wantOpen := slices.Clone(values), slices.Clone(open)
	for slot := range 12 {
		x.accept(0, slot)
		x.accept(1, slot)
		x.choose(slot)
		x.propose(command("c"))
	}
	mustBe(t, "Values", values, wantValues)
	mustBe(t, "Open", open, wantOpen)
}

// No two answers have a text in common, nor one with what was handed in or is kept.
func TestTextsAreNotShared(t *testing.T) {
	told, asked := named(1, 1, strings.Clone("text")), command(strings.Clone("text"))
	p := proposer.New(1, 9, 1)
	p.Promise(0, entries(told, named(2, 1, told.Cmd.Name)))
	l := []string{told.Cmd.Name, asked.Name, p.Propose(asked).Cmd.Name, p.Propose(asked).Cmd.Name}
	for _, list := range [][]api.Entry{p.Values(), p.Values(), p.Open(), p.Open()} {
		for _, e := range list {
			if e.Cmd.Kind == api.CmdLock {
				l = append(l, e.Cmd.Name)
			}
		}
	}
	seen := map[*byte]int{}
	for i, s := range l {
		if was, there := seen[unsafe.StringData(s)]; there || s != "text" {
			t.Errorf("%q: the %dth shares memory with the %dth", s, i, was)
		}
		seen[unsafe.StringData(s)] = i
	}
	if len(l) != 4+2+2+4+4 {
		t.Fatalf("%d texts", len(l))
	}
}

// Two proposers that were told the same list are changed alone.
func TestProposersShareNothing(t *testing.T) {
	l := rows(strings.Clone)
	p, q := proposer.New(1, 9, 1), proposer.New(1, 9, 1)
	p.Promise(0, l)
	q.Promise(0, l)
	want := q.Values()
	for slot := range 9 {
		p.Chosen(slot)
		p.Propose(command("a"))
	}
	mustBe(t, "Values", q.Values(), want)
	mustBe(t, "Open", q.Open(), want)
}

// What is chosen is not kept: neither its command nor who accepted it.
func TestTheChosenIsNotKept(t *testing.T) {
	p := proposer.New(3, 9, 1)
	p.Promise(0, nil)
	p.Promise(1, nil)
	name := strings.Repeat("n", 1000)
	before := heap()
	for slot := 2; slot < 30000; slot++ {
		p.Propose(command(name))
		p.Accepted(0, slot)
		p.Accepted(1, slot)
		p.Chosen(slot)
	}
	if after := heap(); after > before+1<<20 {
		t.Fatalf("%d bytes, then %d", before, after)
	}
	mustBe(t, "Open", p.Open(), entries(term(1, 9)))
}

// heap tells how many bytes are kept.
func heap() uint64 {
	runtime.GC()
	var m runtime.MemStats
	runtime.ReadMemStats(&m)
	return m.HeapAlloc
}

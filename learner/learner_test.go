package learner_test

import (
	"math"
	"slices"
	"testing"

	"latchkey/api"
	"latchkey/learner"
)

const (
	least    = math.MinInt
	greatest = math.MaxInt
)

// named gives an entry whose command has a name.
func named(slot, ballot int, name string) api.Entry {
	return api.Entry{Slot: slot, Ballot: ballot, Cmd: api.Cmd{Kind: api.CmdLock, Session: 3, Seq: 1, Name: name}}
}

// term gives an entry whose command has a number.
func term(slot, n int) api.Entry {
	return api.Entry{Slot: slot, Ballot: 8, Cmd: api.Cmd{Kind: api.CmdTerm, N: n}}
}

// terms gives an entry for each slot; of the same slot it is always the same.
func terms(slots ...int) []api.Entry {
	var l []api.Entry
	for _, slot := range slots {
		l = append(l, term(slot, slot))
	}
	return l
}

// beside gives each of l and the numbers next to it, and the bounds.
func beside(l ...int) []int {
	all := []int{least, least + 1, -1, 0, 1, 2, greatest - 1, greatest}
	for _, n := range l {
		all = append(all, n)
		if n > least {
			all = append(all, n-1)
		}
		if n < greatest {
			all = append(all, n+1)
		}
	}
	slices.Sort(all)
	return slices.Compact(all)
}

// plain is a learner by the chapter's words: it looks all that it knows through for each slot.
type plain struct {
	applied int
	known   []api.Entry
}

func plainNew(base int) *plain {
	if base < 0 {
		base = 0
	}
	return &plain{applied: base}
}

func (p *plain) at(slot int) (api.Entry, bool) {
	for _, e := range p.known {
		if e.Slot == slot {
			return e, true
		}
	}
	return api.Entry{}, false
}

func (p *plain) learn(e api.Entry) []api.Entry {
	if _, known := p.at(e.Slot); known || e.Slot <= p.applied {
		return nil
	}
	p.known = append(p.known, e)
	return p.follow()
}

func (p *plain) follow() []api.Entry {
	var told []api.Entry
	for p.applied < greatest {
		e, known := p.at(p.applied + 1)
		if !known {
			break
		}
		p.applied++
		told = append(told, e)
	}
	return told
}

func (p *plain) jump(base int) []api.Entry {
	if base <= p.applied {
		return nil
	}
	p.applied = base
	p.forget(base)
	return p.follow()
}

func (p *plain) since(slot, most int) []api.Entry {
	var l []api.Entry
	for len(l) < most && slot <= p.applied {
		e, known := p.at(slot)
		if !known {
			break
		}
		l = append(l, e)
		if slot == greatest {
			break
		}
		slot++
	}
	return l
}

func (p *plain) forget(base int) {
	p.known = slices.DeleteFunc(p.known, func(e api.Entry) bool { return e.Slot <= base && e.Slot <= p.applied })
}

func mustBe(t *testing.T, what string, got, want []api.Entry) {
	t.Helper()
	if !slices.Equal(got, want) {
		t.Fatalf("%s: %v, not %v", what, got, want)
	}
}

// mustKnow looks whether all that can be asked of l is answered as by want.
func mustKnow(t *testing.T, what string, l *learner.Learner, want *plain) {
	t.Helper()
	if l.Applied() != want.applied {
		t.Fatalf("%s: Applied %d, not %d", what, l.Applied(), want.applied)
	}
	asked := []int{want.applied}
	for _, e := range want.known {
		asked = append(asked, e.Slot)
	}
	for _, slot := range beside(asked...) {
		got, there := l.Known(slot)
		e, known := want.at(slot)
		if got != e.Cmd || there != known {
			t.Fatalf("%s: Known(%d): %v, %t, not %v, %t", what, slot, got, there, e.Cmd, known)
		}
		for _, most := range []int{least, -1, 0, 1, 2, len(want.known), len(want.known) + 1, greatest} {
			if got, e := l.Since(slot, most), want.since(slot, most); !slices.Equal(got, e) {
				t.Fatalf("%s: Since(%d, %d): %v, not %v", what, slot, most, got, e)
			}
		}
	}
}

// both is a learner and the plain one, to which the same is done.
type both struct {
	t *testing.T
	l *learner.Learner
	p *plain
}

func newBoth(t *testing.T, base int) both {
	t.Helper()
	x := both{t, learner.New(base), plainNew(base)}
	mustKnow(t, "New", x.l, x.p)
	return x
}

// learnt gives one from base on that learned these slots.
func learnt(t *testing.T, base int, slots ...int) both {
	t.Helper()
	x := newBoth(t, base)
	for _, e := range terms(slots...) {
		x.learn(e)
	}
	return x
}

func (x both) learn(e api.Entry) []api.Entry {
	x.t.Helper()
	got := x.l.Learn(e)
	mustBe(x.t, "Learn", got, x.p.learn(e))
	mustKnow(x.t, "Learn", x.l, x.p)
	return got
}

func (x both) jump(base int) []api.Entry {
	x.t.Helper()
	got := x.l.Jump(base)
	mustBe(x.t, "Jump", got, x.p.jump(base))
	mustKnow(x.t, "Jump", x.l, x.p)
	return got
}

func (x both) forget(base int) {
	x.t.Helper()
	x.l.Forget(base)
	x.p.forget(base)
	mustKnow(x.t, "Forget", x.l, x.p)
}

// mustApplied looks what is applied, told by a number of its own.
func (x both) mustApplied(want int) {
	x.t.Helper()
	if got := x.l.Applied(); got != want {
		x.t.Fatalf("Applied %d, not %d", got, want)
	}
}

// mustKnown looks which of these slots are known.
func (x both) mustKnown(want bool, slots ...int) {
	x.t.Helper()
	for _, slot := range slots {
		c, got := x.l.Known(slot)
		if got != want || got && c != term(slot, slot).Cmd || !got && c != (api.Cmd{}) {
			x.t.Fatalf("Known(%d): %v, %t", slot, c, got)
		}
	}
}

// Promise 17.1.

func TestExamples(t *testing.T) {
	x := newBoth(t, 0)
	mustBe(t, "Learn(2)", x.learn(term(2, 2)), nil)
	mustBe(t, "Learn(1)", x.learn(term(1, 1)), terms(1, 2))
	mustBe(t, "Learn(1) again", x.learn(term(1, 1)), nil)
	mustBe(t, "Jump(5)", x.jump(5), nil)
	x.mustApplied(5)
}

func TestNew(t *testing.T) {
	for _, c := range []struct{ base, applied int }{
		{least, 0}, {least + 1, 0}, {-2, 0}, {-1, 0}, {0, 0}, {1, 1}, {2, 2}, {api.SnapEvery, api.SnapEvery}, {greatest - 1, greatest - 1}, {greatest, greatest},
	} {
		x := newBoth(t, c.base)
		x.mustApplied(c.applied)
		x.mustKnown(false, beside(c.base, c.applied)...)
		for _, slot := range beside(c.base, c.applied) {
			if slot <= c.applied {
				mustBe(t, "an applied slot", x.learn(term(slot, slot)), nil)
				x.mustKnown(false, slot)
			}
		}
		if c.applied < greatest {
			mustBe(t, "the next slot", x.learn(term(c.applied+1, 1)), []api.Entry{term(c.applied+1, 1)})
		}
	}
}

func TestLearn(t *testing.T) {
	for _, c := range []struct {
		what    string
		slots   []int // learned one behind the other, from base 4 on
		told    []int // by the last one of them
		applied int
	}{
		{"below Applied", []int{3}, nil, 4},
		{"0", []int{0}, nil, 4},
		{"the least int", []int{least}, nil, 4},
		{"at Applied", []int{4}, nil, 4},
		{"one above Applied", []int{5}, []int{5}, 5},
		{"two above Applied", []int{6}, nil, 4},
		{"far above Applied", []int{1 << 40}, nil, 4},
		{"the greatest int", []int{greatest}, nil, 4},
		{"rising", []int{5, 6, 7}, []int{7}, 7},
		{"falling", []int{7, 6, 5}, []int{5, 6, 7}, 7},
		{"a gap", []int{6, 8, 5}, []int{5, 6}, 6},
		{"a gap, filled", []int{6, 8, 5, 7}, []int{7, 8}, 8},
		{"all but the first", []int{9, 7, 6, 8, greatest, 5}, []int{5, 6, 7, 8, 9}, 9},
		{"one that is applied by it", []int{5, 5}, nil, 5},
		{"one that was applied with others", []int{6, 5, 6}, nil, 6},
		{"one that waits, again", []int{6, 6}, nil, 4},
		{"one that waited twice", []int{6, 6, 5}, []int{5, 6}, 6},
	} {
		x := learnt(t, 4, c.slots[:len(c.slots)-1]...)
		last := c.slots[len(c.slots)-1]
		mustBe(t, c.what, x.learn(term(last, last)), terms(c.told...))
		x.mustApplied(c.applied)
	}
}

// The first thing that is learned of a slot counts, whether it is applied or waits.
func TestLearnOfWhatIsKnown(t *testing.T) {
	for _, other := range []api.Entry{
		named(3, 9, "other"), named(3, 8, "first"), named(3, 10, "first"), term(3, 3), {Slot: 3}, {Slot: 3, Ballot: api.MaxBallot},
	} {
		x := newBoth(t, 1)
		mustBe(t, "3", x.learn(named(3, 9, "first")), nil)
		mustBe(t, "another 3", x.learn(other), nil)
		mustBe(t, "2", x.learn(term(2, 2)), []api.Entry{term(2, 2), named(3, 9, "first")})
		mustBe(t, "another 3, behind", x.learn(other), nil)
		mustBe(t, "Since", x.l.Since(3, 9), []api.Entry{named(3, 9, "first")})
		x.forget(3)
		mustBe(t, "a forgotten one", x.learn(other), nil)
		x.mustKnown(false, 3)
		x.mustApplied(3)
	}
}

// Each field of an entry is told, and known, as it was learned.
func TestWholeEntries(t *testing.T) {
	for _, e := range []api.Entry{
		{Ballot: 0}, {Ballot: least}, {Ballot: greatest}, {Ballot: api.MaxBallot, Cmd: api.Cmd{Kind: api.CmdAdd, Session: 1, Seq: 2, Name: "w", N: -3}},
		{Ballot: 9, Cmd: api.Cmd{Kind: least, Session: least, Seq: least, N: least}}, {Ballot: -1, Cmd: api.Cmd{Kind: greatest, Session: greatest, Seq: greatest, N: greatest, Name: "\xff\x00"}},
	} {
		x := newBoth(t, 6)
		second := e
		e.Slot, second.Slot = 7, 8
		mustBe(t, "waits", x.learn(second), nil)
		mustBe(t, "Learn", x.learn(e), []api.Entry{e, second})
		mustBe(t, "Since", x.l.Since(7, 2), []api.Entry{e, second})
		if c, ok := x.l.Known(8); !ok || c != e.Cmd {
			t.Fatalf("%v, %t", c, ok)
		}
		third := e
		third.Slot = 11
		x.learn(third)
		mustBe(t, "Jump", x.jump(10), []api.Entry{third})
	}
}

func TestKnown(t *testing.T) {
	x := learnt(t, 2, 3, 4, 5, 8, greatest)
	x.mustKnown(true, 3, 4, 5)     // applied and kept
	x.mustKnown(true, 8, greatest) // not applied
	x.mustKnown(false, least, -3, 0, 1, 2)
	x.mustKnown(false, 6, 7, 9, greatest-1) // never learned
	x.forget(4)
	x.mustKnown(false, 3, 4)
	x.mustKnown(true, 5, 8, greatest)
	x.jump(6)
	x.mustKnown(false, 3, 4, 5, 6, 7)
	x.mustKnown(true, 8, greatest)
}

func TestJump(t *testing.T) {
	for _, c := range []struct {
		what    string
		base    int // to which it jumps, with 3, 4, 6, 8, 9, 12 learned from 2 on: 3 and 4 are applied
		told    []int
		applied int
		known   []int
	}{
		{"the least int", least, nil, 4, []int{3, 4, 6, 8, 9, 12}},
		{"-1", -1, nil, 4, []int{3, 4, 6, 8, 9, 12}},
		{"0", 0, nil, 4, []int{3, 4, 6, 8, 9, 12}},
		{"below Applied", 3, nil, 4, []int{3, 4, 6, 8, 9, 12}},
		{"at Applied", 4, nil, 4, []int{3, 4, 6, 8, 9, 12}},
		{"one above Applied, ahead of a known one", 5, []int{6}, 6, []int{6, 8, 9, 12}},
		{"onto a known one", 6, nil, 6, []int{8, 9, 12}},
		{"ahead of a row", 7, []int{8, 9}, 9, []int{8, 9, 12}},
		{"onto the first of a row", 8, []int{9}, 9, []int{9, 12}},
		{"onto the last of a row", 9, nil, 9, []int{12}},
		{"behind a row", 10, nil, 10, []int{12}},
		{"ahead of the last", 11, []int{12}, 12, []int{12}},
		{"onto the last", 12, nil, 12, nil},
		{"past all known ones", 13, nil, 13, nil},
		{"far past all known ones", 1 << 40, nil, 1 << 40, nil},
		{"ahead of the greatest int", greatest - 1, nil, greatest - 1, nil},
		{"the greatest int", greatest, nil, greatest, nil},
	} {
		x := learnt(t, 2, 3, 12, 9, 8, 6, 4)
		mustBe(t, c.what, x.jump(c.base), terms(c.told...))
		x.mustApplied(c.applied)
		x.mustKnown(true, c.known...)
		for slot := range 15 {
			if !slices.Contains(c.known, slot) {
				x.mustKnown(false, slot)
			}
		}
		mustBe(t, c.what+", again", x.jump(c.base), nil)
		for slot := range min(c.applied, 15) {
			mustBe(t, c.what+", then Learn", x.learn(term(slot, slot)), nil)
		}
		if c.applied < greatest {
			mustBe(t, c.what+", then Learn of the next", x.learn(term(c.applied+1, c.applied+1))[:1], terms(c.applied+1))
		}
	}
}

// One above Applied, where nothing is known.
func TestJumpByOne(t *testing.T) {
	x := newBoth(t, 0)
	for base := 1; base < 9; base++ {
		mustBe(t, "Jump", x.jump(base), nil)
		x.mustApplied(base)
	}
	mustBe(t, "Learn", x.learn(term(9, 9)), terms(9))
}

// Nothing is behind the greatest int.
func TestTheGreatestSlot(t *testing.T) {
	x := learnt(t, greatest-3, greatest, greatest-1)
	mustBe(t, "Learn", x.learn(term(greatest-2, greatest-2)), terms(greatest-2, greatest-1, greatest))
	x.mustApplied(greatest)
	mustBe(t, "Since", x.l.Since(greatest-1, 9), terms(greatest-1, greatest))
	for _, slot := range beside(greatest) {
		mustBe(t, "behind", x.learn(term(slot, 1)), nil)
		mustBe(t, "behind", x.jump(slot), nil)
	}
	x.forget(greatest)
	x.mustKnown(false, beside(greatest-2)...)

	x = learnt(t, 0, greatest, greatest-1)
	mustBe(t, "Jump", x.jump(greatest-2), terms(greatest-1, greatest))
	x.mustApplied(greatest)
	x = learnt(t, 0, greatest)
	mustBe(t, "Jump", x.jump(greatest-1), terms(greatest))
	x = learnt(t, 5, 6, greatest)
	mustBe(t, "Jump onto it", x.jump(greatest), nil)
	x.mustKnown(false, 6, greatest)
	x.mustApplied(greatest)
}

func TestSince(t *testing.T) {
	x := learnt(t, 2, 3, 4, 5, 6, 7, 9, 10, 12)
	x.forget(4) // 5, 6, 7 are applied and kept; 9, 10, 12 wait
	for _, c := range []struct {
		what       string
		slot, most int
		want       []int
	}{
		{"all", 5, 3, []int{5, 6, 7}},
		{"fewer than there are", 5, 2, []int{5, 6}},
		{"one", 5, 1, []int{5}},
		{"more than there are", 5, 4, []int{5, 6, 7}},
		{"many more than there are", 5, greatest, []int{5, 6, 7}},
		{"none", 5, 0, nil},
		{"fewer than none", 5, -1, nil},
		{"the least int of them", 5, least, nil},
		{"from the middle", 6, 9, []int{6, 7}},
		{"from the last", 7, 9, []int{7}},
		{"from one that is never learned", 8, 9, nil},
		{"from one that waits", 9, 9, nil},
		{"from one that waits alone", 12, 1, nil},
		{"from behind all", 13, 9, nil},
		{"from a forgotten one", 4, 9, nil},
		{"from another forgotten one", 3, 9, nil},
		{"from the base", 2, 9, nil},
		{"from 0", 0, 9, nil},
		{"from the least int", least, greatest, nil},
		{"from the greatest int", greatest, greatest, nil},
	} {
		mustBe(t, c.what, x.l.Since(c.slot, c.most), terms(c.want...))
		mustKnow(t, c.what, x.l, x.p) // it changes nothing
	}
	x.learn(term(8, 8)) // now the gap is filled
	mustBe(t, "behind the gap", x.l.Since(5, 99), terms(5, 6, 7, 8, 9, 10))
	mustBe(t, "FetchMax", x.l.Since(8, api.FetchMax), terms(8, 9, 10))
	x.jump(11)
	mustBe(t, "behind a jump", x.l.Since(12, 9), terms(12))
	mustBe(t, "ahead of a jump", x.l.Since(8, 9), nil)
}

func TestForget(t *testing.T) {
	for _, c := range []struct {
		what string
		base int // up to which it forgets, with 3, 4, 5, 7, 8 learned from 2 on: Applied is 5
		left []int
	}{
		{"the least int", least, []int{3, 4, 5, 7, 8}},
		{"0", 0, []int{3, 4, 5, 7, 8}},
		{"the base", 2, []int{3, 4, 5, 7, 8}},
		{"the first", 3, []int{4, 5, 7, 8}},
		{"below Applied", 4, []int{5, 7, 8}},
		{"at Applied", 5, []int{7, 8}},
		{"one above Applied", 6, []int{7, 8}},
		{"one that waits", 7, []int{7, 8}},
		{"behind all", 9, []int{7, 8}},
		{"the greatest int", greatest, []int{7, 8}},
	} {
		x := learnt(t, 2, 3, 4, 5, 7, 8)
		for range 2 {
			x.forget(c.base)
			x.mustApplied(5)
			x.mustKnown(true, c.left...)
			for slot := range 10 {
				if !slices.Contains(c.left, slot) {
					x.mustKnown(false, slot)
				}
			}
		}
		x.forget(3) // less than ahead, or no less: what is forgotten stays so
		for slot := range 6 {
			mustBe(t, c.what+", then Learn", x.learn(term(slot, 99)), nil)
		}
		mustBe(t, c.what+", then Learn of the next", x.learn(term(6, 6)), terms(6, 7, 8))
		x.mustKnown(true, 6, 7, 8) // what was not applied was not forgotten
	}
}

// Forgetting one slot behind the other.
func TestForgetEach(t *testing.T) {
	x := learnt(t, 0, 1, 2, 3, 4, 5, 6)
	for base := range 7 {
		x.forget(base)
		mustBe(t, "Since", x.l.Since(base+1, 9), terms(1, 2, 3, 4, 5, 6)[base:])
		mustBe(t, "Since", x.l.Since(base, 9), nil)
	}
	x.forget(greatest)
	mustBe(t, "Learn", x.learn(term(7, 7)), terms(7))
	x.mustKnown(true, 7)
}

// A far base costs no more than a near one.
func TestFarSlots(t *testing.T) {
	x := newBoth(t, 1<<60)
	x.forget(greatest)
	x.learn(term(1<<60+1, 1))
	x.forget(1 << 60)
	mustBe(t, "Since", x.l.Since(1<<60+1, greatest), []api.Entry{term(1<<60+1, 1)})
	x.jump(1 << 61)
	x.forget(1 << 61)
	x.jump(greatest)
	x.forget(greatest)
	mustBe(t, "Since", x.l.Since(0, greatest), nil)
}

func TestNil(t *testing.T) {
	var l *learner.Learner
	for _, n := range beside() {
		mustBe(t, "Learn", l.Learn(term(n, n)), nil)
		mustBe(t, "Jump", l.Jump(n), nil)
		for _, most := range beside() {
			mustBe(t, "Since", l.Since(n, most), nil)
		}
		l.Forget(n)
		if c, ok := l.Known(n); ok || c != (api.Cmd{}) {
			t.Fatalf("Known(%d): %v, %t", n, c, ok)
		}
		if l.Applied() != 0 {
			t.Fatalf("Applied %d", l.Applied())
		}
	}
}

package acceptor_test

import (
	"maps"
	"math"
	"math/rand/v2"
	"slices"
	"strings"
	"testing"

	"latchkey/acceptor"
	"latchkey/api"
)

const (
	least    = math.MinInt
	greatest = math.MaxInt
)

func promise(n int) api.Rec { return api.Rec{Kind: api.RecPromise, N: n} }

func accept(e api.Entry) api.Rec { return api.Rec{Kind: api.RecAccept, Entry: e} }

func entry(slot, ballot int) api.Entry { return api.Entry{Slot: slot, Ballot: ballot} }

// named gives an entry whose command has a name.
func named(slot, ballot int, name string) api.Entry {
	return api.Entry{Slot: slot, Ballot: ballot, Cmd: api.Cmd{Kind: api.CmdLock, Session: 3, Seq: 1, Name: name}}
}

func recs(l ...api.Rec) []api.Rec { return l }

func entries(l ...api.Entry) []api.Entry { return l }

// plain is an acceptor by the chapter's words, over a map.
type plain struct {
	promised, base int
	snap           string
	bySlot         map[int]api.Entry
}

func plainNew(d api.Durable) *plain {
	p := &plain{d.Promised, d.Base, d.Snap, map[int]api.Entry{}}
	for _, e := range d.Entries {
		if e.Slot > d.Base {
			p.bySlot[e.Slot] = e
		}
	}
	return p
}

func (p *plain) prepare(b int) ([]api.Rec, bool) {
	if b < 1 || b < p.promised {
		return nil, false
	}
	if p.promised < b {
		p.promised = b
		return recs(promise(b)), true
	}
	return nil, true
}

func (p *plain) accept(b int, e api.Entry) ([]api.Rec, bool) {
	if b < 1 || b < p.promised || e.Slot < 1 {
		return nil, false
	}
	l, _ := p.prepare(b)
	want := api.Entry{Slot: e.Slot, Ballot: b, Cmd: e.Cmd}
	if was, there := p.bySlot[e.Slot]; e.Slot > p.base && (!there || was != want) {
		p.bySlot[e.Slot] = want
		l = append(l, accept(want))
	}
	return l, true
}

func (p *plain) from(slot int) []api.Entry {
	var l []api.Entry
	for _, at := range slices.Sorted(maps.Keys(p.bySlot)) {
		if at >= slot {
			l = append(l, p.bySlot[at])
		}
	}
	return l
}

func (p *plain) cut(base int, snap string) {
	if base > p.base {
		p.base, p.snap = base, snap
		maps.DeleteFunc(p.bySlot, func(slot int, _ api.Entry) bool { return slot <= base })
	}
}

func (p *plain) durable() api.Durable {
	return api.Durable{Promised: p.promised, Base: p.base, Snap: p.snap, Entries: p.from(least)}
}

func equal(a, b api.Durable) bool {
	return a.Promised == b.Promised && a.Base == b.Base && a.Snap == b.Snap && slices.Equal(a.Entries, b.Entries)
}

// beside gives each of l and the numbers next to it, and the bounds.
func beside(l ...int) []int {
	all := []int{least, least + 1, -1, 0, 1, 2, greatest - 1, greatest}
	for _, n := range l {
		all = append(all, n)
		if n > least {
			all = append(all, n-1)
		}
		if n < greatest {
			all = append(all, n+1)
		}
	}
	slices.Sort(all)
	return slices.Compact(all)
}

// mustKnow looks whether all that can be asked of a is answered as by p.
func mustKnow(t *testing.T, what string, a *acceptor.Acceptor, p *plain) {
	t.Helper()
	if got := a.Promised(); got != p.promised {
		t.Fatalf("%s: %d is promised, not %d", what, got, p.promised)
	}
	if got, want := a.Durable(), p.durable(); !equal(got, want) {
		t.Fatalf("%s: knows %v, not %v", what, got, want)
	}
	for _, slot := range beside(append(slices.Collect(maps.Keys(p.bySlot)), p.base)...) {
		if got, want := a.From(slot), p.from(slot); !slices.Equal(got, want) {
			t.Fatalf("%s: From %d: %v, not %v", what, slot, got, want)
		}
		got, there := a.At(slot)
		want, wanted := p.bySlot[slot]
		if got != want || there != wanted {
			t.Fatalf("%s: At %d: %v %t, not %v %t", what, slot, got, there, want, wanted)
		}
	}
}

// mustOut looks whether an answer is those records and nothing else.
func mustOut(t *testing.T, what string, got api.Out, ok bool, want []api.Rec, wanted bool) {
	t.Helper()
	if ok != wanted || !slices.Equal(got.Recs, want) {
		t.Fatalf("%s: %v %t, not %v %t", what, got.Recs, ok, want, wanted)
	}
	if got.Whole || len(got.Msgs) > 0 || len(got.Apply) > 0 {
		t.Fatalf("%s: more than records: %v", what, got)
	}
}

// both is an acceptor and the plain one, to which the same is done.
type both struct {
	t *testing.T
	a *acceptor.Acceptor
	p *plain
}

func newBoth(t *testing.T, d api.Durable) both {
	t.Helper()
	x := both{t, acceptor.New(d), plainNew(d)}
	mustKnow(t, "New", x.a, x.p)
	return x
}

func (x both) prepare(b int) ([]api.Rec, bool) {
	x.t.Helper()
	got, ok := x.a.Prepare(b)
	want, wanted := x.p.prepare(b)
	mustOut(x.t, "Prepare", got, ok, want, wanted)
	mustKnow(x.t, "Prepare", x.a, x.p)
	return got.Recs, ok
}

func (x both) accept(b int, e api.Entry) ([]api.Rec, bool) {
	x.t.Helper()
	got, ok := x.a.Accept(b, e)
	want, wanted := x.p.accept(b, e)
	mustOut(x.t, "Accept", got, ok, want, wanted)
	mustKnow(x.t, "Accept", x.a, x.p)
	return got.Recs, ok
}

func (x both) cut(base int, snap string) {
	x.t.Helper()
	x.a.Cut(base, snap)
	x.p.cut(base, snap)
	mustKnow(x.t, "Cut", x.a, x.p)
}

// mustGive looks whether a call of both gave just what a test says beside the plain words.
func mustGive(t *testing.T, what string, l []api.Rec, ok bool, want []api.Rec, wanted bool) {
	t.Helper()
	mustOut(t, what, api.Out{Recs: l}, ok, want, wanted)
}

// Promise 15.1.

func TestExamples(t *testing.T) {
	x := newBoth(t, api.Durable{})
	l, ok := x.prepare(9)
	mustGive(t, "Prepare 9", l, ok, recs(promise(9)), true)
	l, ok = x.prepare(8)
	mustGive(t, "Prepare 8", l, ok, nil, false)
	l, ok = x.accept(9, entry(1, 0))
	mustGive(t, "Accept 9", l, ok, recs(accept(entry(1, 9))), true)
	l, ok = x.accept(17, entry(1, 0))
	mustGive(t, "Accept 17", l, ok, recs(promise(17), accept(entry(1, 17))), true)
}

// sample is a state as the layers' calls make them.
func sample() api.Durable {
	return api.Durable{Promised: 17, Base: 3, Snap: "three", Entries: entries(named(4, 9, "a"), named(5, 17, "b"), entry(8, 17), named(12, 9, "c"))}
}

func mustNew(t *testing.T, what string, d, want api.Durable) {
	t.Helper()
	a := acceptor.New(d)
	if got := a.Durable(); !equal(got, want) || a.Promised() != want.Promised {
		t.Fatalf("%s: %v, not %v", what, got, want)
	}
	newBoth(t, d)
}

func TestNewKnowsTheState(t *testing.T) {
	for _, d := range []api.Durable{
		{}, {Promised: 9}, {Base: 5, Snap: "x"}, {Base: 5}, {Snap: "no base"}, {Promised: 9, Base: 5, Snap: "x", Entries: entries()},
		{Promised: greatest, Base: greatest, Snap: "\x00\xff"}, {Entries: entries(entry(1, 0))}, sample(),
	} {
		mustNew(t, "the same", d, d)
	}
	mustKnow(t, "zero", &acceptor.Acceptor{}, plainNew(api.Durable{}))
}

func TestNewTakesEntriesByRisingSlots(t *testing.T) {
	want := sample()
	for seed := range uint64(200) {
		d := sample()
		rand.New(rand.NewPCG(151, seed)).Shuffle(len(d.Entries), func(i, j int) { d.Entries[i], d.Entries[j] = d.Entries[j], d.Entries[i] })
		mustNew(t, "shuffled", d, want)
	}
	slices.Reverse(want.Entries)
	mustNew(t, "falling", want, sample())
}

func TestNewTakesEntriesAboveBaseAlone(t *testing.T) {
	all := entries(entry(least, 1), entry(-1, 1), entry(0, 1), entry(1, 1), named(2, 9, "a"), entry(3, 9), named(4, 9, "b"), entry(greatest-1, 9), entry(greatest, 9))
	for _, base := range beside(3) {
		above := slices.DeleteFunc(slices.Clone(all), func(e api.Entry) bool { return e.Slot <= base })
		mustNew(t, "base", api.Durable{Promised: 9, Base: base, Snap: "s", Entries: all}, api.Durable{Promised: 9, Base: base, Snap: "s", Entries: above})
	}
}

// Two entries of one slot are none that the layers' calls make: as with records of one slot, the last one is the slot's.
func TestNewOfTwoEntriesOfASlot(t *testing.T) {
	with := func(l ...api.Entry) api.Durable { return api.Durable{Promised: 17, Base: 2, Snap: "s", Entries: l} }
	a, b, c := named(4, 9, "a"), named(4, 17, "b"), entry(7, 9)
	mustNew(t, "alone", with(a, b), with(b))
	mustNew(t, "falling", with(b, a), with(a))
	mustNew(t, "the same", with(a, a), with(a))
	mustNew(t, "ahead of another", with(a, b, c), with(b, c))
	mustNew(t, "around another", with(a, c, b), with(b, c))
	mustNew(t, "behind another", with(c, a, b), with(b, c))
	mustNew(t, "at Base", with(entry(2, 9), entry(2, 17), c), with(c))
}

// What is promised is what the state says, though an entry may have a greater ballot.
func TestNewPromisesWhatTheStateSays(t *testing.T) {
	for _, promised := range beside(9, 17) {
		d := api.Durable{Promised: promised, Entries: entries(named(1, 17, "a"), named(2, 9, "b"))}
		mustNew(t, "promised", d, d)
	}
}

func TestPrepareAtTheEdges(t *testing.T) {
	for _, promised := range beside(9, api.MaxBallot) {
		for _, b := range beside(promised, 9, api.MaxBallot) {
			d := sample()
			d.Promised = promised
			x := newBoth(t, d)
			l, ok := x.prepare(b)
			switch {
			case b < 1 || b < promised:
				mustGive(t, "below", l, ok, nil, false)
			case b == promised:
				mustGive(t, "the same", l, ok, nil, true)
			default:
				mustGive(t, "above", l, ok, recs(promise(b)), true)
			}
			again, ok2 := x.prepare(b)
			mustGive(t, "again", again, ok2, nil, ok)
		}
	}
}

func TestAcceptAtTheEdges(t *testing.T) {
	for _, promised := range beside(9) {
		for _, base := range []int{least, -1, 0, 1, 3, greatest - 1, greatest} {
			for _, b := range beside(promised, 9) {
				for _, slot := range beside(base, 4) {
					d := sample()
					d.Promised, d.Base = promised, base
					x := newBoth(t, d)
					_, ok := x.accept(b, named(slot, 5, "new"))
					again, ok2 := x.accept(b, named(slot, 6, "new"))
					mustGive(t, "again", again, ok2, nil, ok)
				}
			}
		}
	}
}

func TestAcceptOfANewSlot(t *testing.T) {
	for _, slot := range []int{4, 5, 6, 9, 13, greatest} { // ahead of the entries, between them, behind them
		x := newBoth(t, api.Durable{Promised: 9, Base: 3, Entries: entries(entry(7, 9), entry(11, 9))})
		l, ok := x.accept(9, named(slot, 5, "a"))
		mustGive(t, "by what is promised", l, ok, recs(accept(named(slot, 9, "a"))), true)
		l, ok = x.accept(10, named(slot, 99, "a"))
		mustGive(t, "by more", l, ok, recs(promise(10), accept(named(slot, 10, "a"))), true)
	}
}

// A refused slot is refused ahead of all: what is promised stays, too.
func TestAcceptRefusesASlotBelowOne(t *testing.T) {
	for _, base := range []int{least, -5, 0, 3} {
		for _, slot := range []int{least, least + 1, -6, -5, -4, -1, 0} {
			for _, b := range []int{17, 18, greatest} {
				d := sample()
				d.Base = base
				x := newBoth(t, d)
				l, ok := x.accept(b, named(slot, b, "a"))
				mustGive(t, "Accept", l, ok, nil, false)
				if x.a.Promised() != 17 {
					t.Fatalf("promised %d", x.a.Promised())
				}
			}
		}
	}
}

// What the snapshot covers is accepted, as it is chosen; there is nothing to keep of it but the promise.
func TestAcceptOfWhatBaseCovers(t *testing.T) {
	for _, slot := range []int{1, 2, 3} {
		x := newBoth(t, sample())
		l, ok := x.accept(17, named(slot, 1, "a"))
		mustGive(t, "by what is promised", l, ok, nil, true)
		l, ok = x.accept(18, named(slot, 1, "a"))
		mustGive(t, "by more", l, ok, recs(promise(18)), true)
		l, ok = x.accept(17, named(slot, 1, "a"))
		mustGive(t, "by less", l, ok, nil, false)
		if d := x.a.Durable(); !slices.Equal(d.Entries, sample().Entries) {
			t.Fatalf("%v", d)
		}
	}
}

func TestAcceptAgain(t *testing.T) {
	x := newBoth(t, api.Durable{Promised: 9})
	e := named(4, 9, "a")
	l, ok := x.accept(9, e)
	mustGive(t, "first", l, ok, recs(accept(e)), true)
	for _, ballot := range []int{9, 0, 5, -1, greatest} { // the entry's own ballot plays no part
		e.Ballot = ballot
		l, ok = x.accept(9, e)
		mustGive(t, "by the same ballot", l, ok, nil, true)
	}
	l, ok = x.accept(10, e)
	mustGive(t, "by a greater one", l, ok, recs(promise(10), accept(named(4, 10, "a"))), true)
	x.prepare(17)
	l, ok = x.accept(17, e)
	mustGive(t, "behind a promise", l, ok, recs(accept(named(4, 17, "a"))), true)
	l, ok = x.accept(17, e)
	mustGive(t, "again", l, ok, nil, true)
	l, ok = x.accept(16, e)
	mustGive(t, "by a lower one", l, ok, nil, false)
}

// A command that differs in one field alone is another one, also by the same ballot.
func TestAcceptOfAnotherCommand(t *testing.T) {
	for _, change := range []func(c *api.Cmd){
		func(c *api.Cmd) { c.Kind++ }, func(c *api.Cmd) { c.Session++ }, func(c *api.Cmd) { c.Seq++ }, func(c *api.Cmd) { c.N++ },
		func(c *api.Cmd) { c.Name = "" }, func(c *api.Cmd) { c.Name = "b" }, func(c *api.Cmd) { c.Name = "a\x00" }, func(c *api.Cmd) { *c = api.Cmd{} },
	} {
		for _, slot := range []int{4, 5, 12} {
			for _, b := range []int{17, 25} {
				d := sample()
				d.Entries = slices.DeleteFunc(d.Entries, func(e api.Entry) bool { return e.Slot == slot })
				d.Entries = append(d.Entries, named(slot, 17, "a"))
				x := newBoth(t, d)
				other := named(slot, b, "a")
				change(&other.Cmd)
				want := recs(accept(other))
				if b > 17 {
					want = recs(promise(b), accept(other))
				}
				l, ok := x.accept(b, other)
				mustGive(t, "another", l, ok, want, true)
				if e, there := x.a.At(slot); !there || e != other {
					t.Fatalf("%v %t", e, there)
				}
			}
		}
	}
}

// Any command is taken, as it is; which may be is asked elsewhere.
func TestAcceptOfAnyCommand(t *testing.T) {
	for _, c := range []api.Cmd{
		{}, {Kind: api.CmdTerm, N: 9}, {Kind: least, Session: least, Seq: least, N: least}, {Kind: greatest, Session: greatest, Seq: greatest, N: greatest},
		{Name: strings.Repeat("n", 10*api.MaxName)}, {Kind: api.CmdLock, Name: "\xff\x00"},
	} {
		x := newBoth(t, api.Durable{})
		want := api.Entry{Slot: 1, Ballot: 9, Cmd: c}
		l, ok := x.accept(9, api.Entry{Slot: 1, Ballot: 33, Cmd: c})
		mustGive(t, "Accept", l, ok, recs(promise(9), accept(want)), true)
	}
}

// Where the answer is false, nothing has changed: what comes behind is answered as without it.
func TestRefusedChangesNothing(t *testing.T) {
	for _, b := range []int{least, -17, -1, 0, 1, 16} {
		x := newBoth(t, sample())
		before := x.a.Durable()
		_, prepared := x.prepare(b)
		_, accepted := x.accept(b, named(4, 17, "other"))
		_, slotless := x.accept(33, named(0, 17, "other"))
		if prepared || accepted || slotless || !equal(x.a.Durable(), before) {
			t.Fatalf("%d: %t %t %t %v", b, prepared, accepted, slotless, x.a.Durable())
		}
		l, ok := x.accept(17, named(5, 0, "b"))
		mustGive(t, "behind", l, ok, nil, true)
	}
}

// Slots in each order: the entries rise nonetheless.
func TestAcceptInAnyOrder(t *testing.T) {
	for seed := range uint64(300) {
		r := rand.New(rand.NewPCG(152, seed))
		x := newBoth(t, api.Durable{Promised: 9, Base: 2})
		for _, i := range r.Perm(12) {
			x.accept(9, named(i+1, 0, strings.Repeat("n", i)))
		}
		if l := x.a.From(0); len(l) != 10 || l[0].Slot != 3 || l[9].Slot != 12 {
			t.Fatalf("%v", l)
		}
	}
}

func TestManyEntries(t *testing.T) {
	const n = 200000
	a := acceptor.New(api.Durable{})
	for slot := 1; slot <= n; slot++ {
		a.Accept(1, entry(slot, 0))
	}
	for slot := n; slot >= 1; slot-- {
		if out, ok := a.Accept(2, entry(slot, 0)); !ok || len(out.Recs) < 1 {
			t.Fatalf("%d: %v %t", slot, out, ok)
		}
		if e, there := a.At(slot); !there || e != entry(slot, 2) {
			t.Fatalf("%d: %v %t", slot, e, there)
		}
	}
	a.Cut(n-2, "")
	if l := a.From(0); !slices.Equal(l, entries(entry(n-1, 2), entry(n, 2))) {
		t.Fatalf("%d entries", len(l))
	}
}

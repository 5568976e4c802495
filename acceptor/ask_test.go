package acceptor_test

import (
	"slices"
	"testing"

	"latchkey/acceptor"
	"latchkey/api"
)

// Promise 15.2.

func TestFrom(t *testing.T) {
	a := acceptor.New(sample())
	all := sample().Entries // of the slots 4, 5, 8 and 12
	for _, c := range []struct{ slot, first int }{
		{least, 0}, {-1, 0}, {0, 0}, {1, 0}, {3, 0}, {4, 0}, {5, 1}, {6, 2}, {7, 2}, {8, 2}, {9, 3}, {11, 3}, {12, 3}, {13, 4}, {greatest, 4},
	} {
		if got := a.From(c.slot); !slices.Equal(got, all[c.first:]) {
			t.Errorf("From %d: %v", c.slot, got)
		}
	}
}

func TestFromWithoutEntries(t *testing.T) {
	for _, d := range []api.Durable{{}, {Promised: 9, Base: 3, Snap: "s"}, {Base: 12, Entries: sample().Entries}} {
		a := acceptor.New(d)
		for _, slot := range beside(d.Base, 4) {
			if got := a.From(slot); len(got) != 0 {
				t.Errorf("From %d: %v", slot, got)
			}
			if e, there := a.At(slot); there || e != (api.Entry{}) {
				t.Errorf("At %d: %v %t", slot, e, there)
			}
		}
	}
}

func TestAt(t *testing.T) {
	a := acceptor.New(sample())
	for _, slot := range beside(3, 5, 7, 9, 11, 13) {
		at := slices.IndexFunc(sample().Entries, func(e api.Entry) bool { return e.Slot == slot })
		e, there := a.At(slot)
		if at < 0 && (there || e != (api.Entry{})) || at >= 0 && (!there || e != sample().Entries[at]) {
			t.Errorf("At %d: %v %t", slot, e, there)
		}
	}
}

// The slots of both ends of the ints are slots like others.
func TestAtTheEndsOfTheInts(t *testing.T) {
	x := newBoth(t, api.Durable{Base: greatest - 2})
	x.accept(1, named(greatest, 0, "last"))
	x.accept(1, named(greatest-1, 0, "last but one"))
	x.accept(1, named(greatest-2, 0, "covered"))
	if l := x.a.From(greatest); !slices.Equal(l, entries(named(greatest, 1, "last"))) {
		t.Errorf("%v", l)
	}
	x = newBoth(t, api.Durable{Base: least, Entries: entries(entry(least, 1), entry(least+1, 1))})
	x.cut(least+1, "s")
	x.cut(least, "t")
}

func mustCut(t *testing.T, base int, want api.Durable) {
	t.Helper()
	x := newBoth(t, sample())
	x.cut(base, "cut")
	if got := x.a.Durable(); !equal(got, want) {
		t.Fatalf("Cut %d: %v, not %v", base, got, want)
	}
	x.cut(base, "again")
	if got := x.a.Durable(); !equal(got, want) {
		t.Fatalf("Cut %d again: %v, not %v", base, got, want)
	}
}

func TestCut(t *testing.T) {
	for _, base := range []int{least, -1, 0, 1, 2, 3} {
		mustCut(t, base, sample())
	}
	all := sample().Entries
	for _, c := range []struct{ base, first int }{{4, 1}, {5, 2}, {6, 2}, {7, 2}, {8, 3}, {9, 3}, {11, 3}, {12, 4}, {13, 4}, {greatest - 1, 4}, {greatest, 4}} {
		mustCut(t, c.base, api.Durable{Promised: 17, Base: c.base, Snap: "cut", Entries: all[c.first:]})
	}
}

func TestCutTakesAnyText(t *testing.T) {
	for _, snap := range []string{"", "\x00", "\xff\xfe", "a long text of many bytes"} {
		x := newBoth(t, sample())
		x.cut(7, snap)
		if d := x.a.Durable(); d.Snap != snap || d.Base != 7 {
			t.Errorf("%v", d)
		}
	}
}

// Behind a Cut the new Base counts: what it covers is not kept any more, what is above is.
func TestAcceptBehindACut(t *testing.T) {
	x := newBoth(t, sample())
	x.cut(7, "seven")
	for _, slot := range []int{1, 3, 4, 5, 6, 7} {
		l, ok := x.accept(17, named(slot, 0, "covered"))
		mustGive(t, "covered", l, ok, nil, true)
	}
	l, ok := x.accept(25, named(7, 0, "covered"))
	mustGive(t, "covered, by more", l, ok, recs(promise(25)), true)
	l, ok = x.accept(25, named(9, 0, "new"))
	mustGive(t, "above", l, ok, recs(accept(named(9, 25, "new"))), true)
	l, ok = x.accept(25, entry(8, 0))
	mustGive(t, "above, by more", l, ok, recs(accept(entry(8, 25))), true)
	x.cut(greatest, "all")
	l, ok = x.accept(33, named(greatest, 0, "last"))
	mustGive(t, "nothing is above", l, ok, recs(promise(33)), true)
}

func TestCutLeavesThePromise(t *testing.T) {
	for _, promised := range beside(9) {
		x := newBoth(t, api.Durable{Promised: promised, Entries: entries(entry(1, 9), entry(2, 33))})
		x.cut(1, "s")
		x.cut(5, "t")
		if x.a.Promised() != promised {
			t.Errorf("%d, not %d", x.a.Promised(), promised)
		}
	}
}

func TestDurable(t *testing.T) {
	x := newBoth(t, sample())
	x.accept(25, named(6, 0, "six"))
	x.accept(25, named(4, 0, "four"))
	x.cut(4, "cut")
	x.prepare(33)
	want := api.Durable{Promised: 33, Base: 4, Snap: "cut", Entries: entries(named(5, 17, "b"), named(6, 25, "six"), entry(8, 17), named(12, 9, "c"))}
	if got := x.a.Durable(); !equal(got, want) {
		t.Errorf("%v, not %v", got, want)
	}
}

func TestNil(t *testing.T) {
	var a *acceptor.Acceptor
	for _, n := range beside(9) {
		if out, ok := a.Prepare(n); ok || len(out.Recs) > 0 || out.Whole || len(out.Msgs) > 0 || len(out.Apply) > 0 {
			t.Errorf("Prepare %d: %v %t", n, out, ok)
		}
		for _, slot := range beside(4) {
			if out, ok := a.Accept(n, named(slot, n, "a")); ok || len(out.Recs) > 0 || out.Whole || len(out.Msgs) > 0 || len(out.Apply) > 0 {
				t.Errorf("Accept %d %d: %v %t", n, slot, out, ok)
			}
		}
		if l := a.From(n); len(l) > 0 {
			t.Errorf("From %d: %v", n, l)
		}
		if e, there := a.At(n); there || e != (api.Entry{}) {
			t.Errorf("At %d: %v %t", n, e, there)
		}
		a.Cut(n, "s")
	}
	if d := a.Durable(); a.Promised() != 0 || !equal(d, api.Durable{}) {
		t.Errorf("%d %v", a.Promised(), d)
	}
}

// Questions change nothing, however often they are asked.
func TestQuestionsChangeNothing(t *testing.T) {
	a := acceptor.New(sample())
	for range 3 {
		for _, n := range beside(3, 5, 12) {
			a.From(n)
			a.At(n)
			a.Promised()
			if got := a.Durable(); !equal(got, sample()) {
				t.Fatalf("%v", got)
			}
		}
	}
}

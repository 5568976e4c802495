package acceptor_test

import (
	"math/rand/v2"
	"slices"
	"strings"
	"testing"

	"latchkey/acceptor"
	"latchkey/api"
	"latchkey/disk"
	"latchkey/durable"
)

// Promise 15.3, and runs of all calls one behind the other.

// someState gives a state as the layers' calls make them, of few slots and ballots, so that what comes meets what is there.
func someState(r *rand.Rand) api.Durable {
	d := api.Durable{Base: r.IntN(5)}
	if d.Base > 0 {
		d.Snap = strings.Repeat("s", r.IntN(3))
	}
	var l []api.Rec
	for range r.IntN(8) {
		l = append(l, accept(named(1+r.IntN(12), 1+r.IntN(20), strings.Repeat("n", 1+r.IntN(2)))))
	}
	if r.IntN(2) == 0 {
		l = append(l, promise(1+r.IntN(30)))
	}
	return durable.Fold(d, l)
}

// anyState gives one of any numbers, in any order.
func anyState(r *rand.Rand) api.Durable {
	n := func() int { return odd[r.IntN(len(odd))] }
	d := api.Durable{Promised: n(), Base: n(), Snap: "s"}
	for range r.IntN(8) {
		d.Entries = append(d.Entries, named(n(), n(), strings.Repeat("n", r.IntN(3))))
	}
	return d
}

// odd are numbers at and beside each bound.
var odd = []int{least, least + 1, -2, -1, 0, 1, 2, 3, 8, 9, 10, api.MaxBallot, api.MaxBallot + 1, greatest - 1, greatest}

// do does one of the calls that change something, with numbers that n gives, and tells the records; cut says that it was a Cut.
func (x both) do(r *rand.Rand, n func() int) (l []api.Rec, cut bool) {
	x.t.Helper()
	switch r.IntN(8) {
	case 0, 1:
		l, _ = x.prepare(n())
	case 2:
		x.cut(n(), strings.Repeat("c", r.IntN(4)))
		return nil, true
	default:
		l, _ = x.accept(n(), named(n(), n(), strings.Repeat("n", 1+r.IntN(2))))
	}
	return l, false
}

func TestRunsOfStates(t *testing.T) {
	for seed := range uint64(3000) {
		r := rand.New(rand.NewPCG(153, seed))
		x := newBoth(t, someState(r))
		for range 20 {
			x.do(r, func() int { return r.IntN(26) - 1 })
		}
	}
}

func TestRunsOfAnyNumbers(t *testing.T) {
	for seed := range uint64(3000) {
		r := rand.New(rand.NewPCG(154, seed))
		x := newBoth(t, anyState(r))
		for range 12 {
			x.do(r, func() int { return odd[r.IntN(len(odd))] })
		}
	}
}

// ballots tells the ballots of the entries, by their slots.
func ballots(a *acceptor.Acceptor) map[int]int {
	all := map[int]int{}
	for _, e := range a.From(least) {
		all[e.Slot] = e.Ballot
	}
	return all
}

func TestNothingFalls(t *testing.T) {
	for seed := range uint64(2000) {
		r := rand.New(rand.NewPCG(155, seed))
		x := newBoth(t, someState(r))
		for range 20 {
			promised, was := x.a.Promised(), ballots(x.a)
			_, cut := x.do(r, func() int { return r.IntN(34) - 1 })
			if x.a.Promised() < promised {
				t.Fatalf("promised: %d behind %d", x.a.Promised(), promised)
			}
			is := ballots(x.a)
			for slot, ballot := range was {
				now, there := is[slot]
				if there && now < ballot || !there && (!cut || slot > x.a.Durable().Base) {
					t.Fatalf("slot %d: %d %t behind %d", slot, now, there, ballot)
				}
				if now > x.a.Promised() {
					t.Fatalf("slot %d: %d above what is promised, %d", slot, now, x.a.Promised())
				}
			}
		}
	}
}

// A promise or an acceptance that fell behind a greater promise is refused, wherever that came from: the state, a Prepare, an Accept, an Accept of what Base covers.
func TestWhatIsPromisedHolds(t *testing.T) {
	for _, way := range []func(x both){
		func(x both) { x.prepare(33) }, func(x both) { x.accept(33, named(4, 0, "a")) }, func(x both) { x.accept(33, named(1, 0, "a")) },
		func(x both) { x.prepare(33); x.cut(9, "s") }, func(x both) { x.prepare(33); x.prepare(32) },
	} {
		x := newBoth(t, sample())
		way(x)
		for _, slot := range []int{1, 3, 4, 20} {
			l, ok := x.accept(32, named(slot, 33, "late"))
			mustGive(t, "late", l, ok, nil, false)
		}
		l, ok := x.prepare(32)
		mustGive(t, "late", l, ok, nil, false)
	}
}

// Fold of what was known with all records is what is known, behind each call.
func TestFoldOfTheRecords(t *testing.T) {
	for seed := range uint64(3000) {
		r := rand.New(rand.NewPCG(156, seed))
		x := newBoth(t, someState(r))
		knew, first := x.a.Durable(), x.a.Durable()
		var l, all []api.Rec
		for range 25 {
			made, cut := x.do(r, func() int { return r.IntN(30) - 1 })
			l, all = append(l, made...), append(all, made...)
			if cut {
				knew, l = x.a.Durable(), nil
			}
			if got, want := durable.Fold(knew, l), x.a.Durable(); !durable.Same(got, want) {
				t.Fatalf("%v, not %v", got, want)
			}
		}
		folded, now := durable.Fold(first, all), x.a.Durable() // the Cuts apart: they take entries away, and nothing else
		folded.Entries = slices.DeleteFunc(folded.Entries, func(e api.Entry) bool { return e.Slot <= now.Base })
		if folded.Promised != now.Promised || !slices.Equal(folded.Entries, now.Entries) {
			t.Fatalf("%v, not %v", folded, now)
		}
	}
}

func TestFoldOfTheRecordsOfAnyNumbers(t *testing.T) {
	for seed := range uint64(3000) {
		r := rand.New(rand.NewPCG(157, seed))
		x := newBoth(t, anyState(r))
		knew := x.a.Durable()
		var l []api.Rec
		for range 12 {
			made, cut := x.do(r, func() int { return odd[r.IntN(len(odd))] })
			l = append(l, made...)
			if cut {
				knew, l = x.a.Durable(), nil
			}
			if got, want := durable.Fold(knew, l), x.a.Durable(); !durable.Same(got, want) {
				t.Fatalf("%v, not %v", got, want)
			}
		}
	}
}

// One that is made anew of what another knows answers as that one does.
func TestNewOfDurable(t *testing.T) {
	for seed := range uint64(1000) {
		r := rand.New(rand.NewPCG(158, seed))
		x := newBoth(t, someState(r))
		for range 15 {
			x.do(r, func() int { return r.IntN(30) - 1 })
			x = both{t, acceptor.New(x.a.Durable()), x.p}
		}
	}
}

// On a disk: the records are put into a store, each Cut is a snapshot, and behind a crash an acceptor of the store's state goes on.
func TestRecordsOnADisk(t *testing.T) {
	for seed := range uint64(300) {
		r := rand.New(rand.NewPCG(159, seed))
		d := disk.New()
		s, _ := durable.Open(d)
		x := newBoth(t, s.State())
		for range 25 {
			l, cut := x.do(r, func() int { return r.IntN(30) - 1 })
			err := api.OK
			if cut && x.a.Durable().Base > 0 {
				err = s.Snap(x.a.Durable())
			} else {
				err = s.Put(l, false)
			}
			if err != api.OK {
				t.Fatalf("the store answers %d", err)
			}
			if r.IntN(4) == 0 {
				d.Crash(0)
				s, _ = durable.Open(d)
				x = both{t, acceptor.New(s.State()), x.p}
				mustKnow(t, "behind a crash", x.a, x.p)
			}
		}
	}
}

// Rule R5: the same calls are answered the same.
func TestTheSameAgain(t *testing.T) {
	told := func(seed uint64) ([]api.Rec, api.Durable) {
		r := rand.New(rand.NewPCG(160, seed))
		x := newBoth(t, someState(r))
		var all []api.Rec
		for range 20 {
			l, _ := x.do(r, func() int { return r.IntN(30) - 1 })
			all = append(all, l...)
		}
		return all, x.a.Durable()
	}
	for seed := range uint64(200) {
		l, d := told(seed)
		again, other := told(seed)
		if !slices.Equal(l, again) || !equal(d, other) {
			t.Fatalf("%v %v, then %v %v", l, d, again, other)
		}
	}
}

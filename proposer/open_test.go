package proposer_test

import (
	"math/rand/v2"
	"slices"
	"strconv"
	"testing"

	"latchkey/api"
	"latchkey/proposer"
)

// Promise 16.2.

func TestAllValuesAreOpen(t *testing.T) {
	for n := 1; n <= 5; n++ {
		x := readyBoth(t, n, 9, 2, named(4, 1, "x"))
		mustBe(t, "Open", x.p.Open(), entries(none(2, 9), none(3, 9), named(4, 9, "x"), term(5, 9)))
		for slot := 2; slot <= 5; slot++ {
			for server := range n {
				must(t, "Accepted", x.accept(server, slot), server == n/2)
			}
		}
	}
}

func TestAcceptedAheadOfReady(t *testing.T) {
	x := newBoth(t, 3, 9, 1)
	for _, slot := range beside(1) {
		must(t, "ahead of all", x.accept(0, slot), false)
	}
	x.promise(0, named(2, 1, "x"))
	for slot := range 4 {
		must(t, "ahead of ready", x.accept(0, slot), false)
		must(t, "ahead of ready", x.accept(1, slot), false)
	}
	x.promise(1)
	for slot := 1; slot <= 3; slot++ { // what came ahead of ready does not count
		must(t, "one", x.accept(2, slot), false)
		must(t, "two", x.accept(0, slot), true)
	}
}

func TestAcceptedTwice(t *testing.T) {
	x := readyBoth(t, 5, 9, 1, named(1, 1, "x"))
	for range 3 {
		must(t, "the same", x.accept(4, 1), false)
		must(t, "the same", x.accept(0, 1), false)
	}
	must(t, "the third", x.accept(3, 1), true)
	for server := range 5 { // a majority accepted it already
		must(t, "behind", x.accept(server, 1), false)
	}
	mustBe(t, "Open", x.p.Open(), entries(named(1, 9, "x"), term(2, 9)))
	for server := range 5 { // each slot for itself
		must(t, "another slot", x.accept(server, 2), server == 2)
	}
}

func TestAcceptedByNoServer(t *testing.T) {
	for _, n := range []int{1, 2, 3, 5} {
		x := readyBoth(t, n, 9, 1)
		for _, server := range beside(n, n+3, -n, api.MaxServers) {
			if server < 0 || server >= n {
				must(t, "no server", x.accept(server, 1), false)
			}
		}
		for i := range n {
			must(t, "falling", x.accept(n-1-i, 1), i == n/2)
		}
	}
}

func TestAcceptedOfASlotThatIsNotOpen(t *testing.T) {
	x := readyBoth(t, 1, 9, 3, named(4, 1, "x"))
	for _, slot := range beside(2, 6) {
		if slot < 3 || slot > 5 {
			must(t, "not open", x.accept(0, slot), false)
		}
	}
	x.choose(4)
	must(t, "chosen", x.accept(0, 4), false)
	must(t, "open", x.accept(0, 3), true)
	x.choose(3)
	must(t, "accepted and chosen", x.accept(0, 3), false)
	must(t, "not open yet", x.accept(0, 6), false)
	x.propose(command("a"))
	must(t, "open now", x.accept(0, 6), true)
}

// One that is accepted ahead of its being open is not accepted by that.
func TestAcceptedAheadOfItsSlot(t *testing.T) {
	x := readyBoth(t, 3, 9, 1)
	must(t, "ahead", x.accept(0, 2), false)
	must(t, "ahead", x.accept(1, 2), false)
	x.propose(command("a"))
	must(t, "one", x.accept(0, 2), false)
	must(t, "two", x.accept(1, 2), true)
}

// A slot that a majority accepted stays open until it is chosen.
func TestAcceptedClosesNothing(t *testing.T) {
	x := readyBoth(t, 3, 9, 1)
	x.accept(0, 1)
	x.accept(1, 1)
	mustBe(t, "Open", x.p.Open(), entries(term(1, 9)))
	x.choose(1)
	mustBe(t, "Open", x.p.Open(), nil)
}

func TestProposeAheadOfReady(t *testing.T) {
	x := newBoth(t, 3, 9, 1)
	for _, do := range []func(){func() {}, func() { x.promise(0, named(2, 1, "x")) }, func() { x.promise(0) }, func() { x.promise(7) }} {
		do()
		if e := x.propose(command("early")); e != (api.Entry{}) {
			t.Fatalf("%v", e)
		}
	}
	x.promise(1)
	want := entries(none(1, 9), named(2, 9, "x"), term(3, 9))
	mustBe(t, "Values", x.p.Values(), want)
	mustBe(t, "Open", x.p.Open(), want)
	if e := x.propose(command("a")); e != named(4, 9, "a") {
		t.Fatalf("%v", e)
	}
}

func TestProposeOneBehindTheOther(t *testing.T) {
	x := readyBoth(t, 3, 9, 1, named(2, 1, "x"))
	want := x.p.Values()
	for slot := 4; slot < 20; slot++ {
		e := named(slot, 9, strconv.Itoa(slot))
		if got := x.propose(e.Cmd); got != e {
			t.Fatalf("%v, not %v", got, e)
		}
		want = append(want, e)
		mustBe(t, "Open", x.p.Open(), want)
		must(t, "one", x.accept(0, slot), false)
		must(t, "two", x.accept(1, slot), true)
	}
}

// The same command is proposed as often as it is asked for, at a slot of its own each time.
func TestProposeAgain(t *testing.T) {
	x := readyBoth(t, 1, 9, 1)
	for slot := 2; slot < 5; slot++ {
		if e := x.propose(command("a")); e != named(slot, 9, "a") {
			t.Fatalf("%v", e)
		}
	}
	x.propose(api.Cmd{})
	mustBe(t, "Open", x.p.Open(), entries(term(1, 9), named(2, 9, "a"), named(3, 9, "a"), named(4, 9, "a"), none(5, 9)))
}

// The next slot is the one behind all that ever were open, though they are chosen.
func TestProposeBehindTheChosen(t *testing.T) {
	x := readyBoth(t, 1, 9, 1, named(2, 1, "x"))
	for slot := 1; slot <= 3; slot++ {
		x.choose(slot)
	}
	mustBe(t, "Open", x.p.Open(), nil)
	for slot := 4; slot < 9; slot++ {
		if e := x.propose(command("a")); e != named(slot, 9, "a") {
			t.Fatalf("%v", e)
		}
		mustBe(t, "Open", x.p.Open(), entries(named(slot, 9, "a")))
		must(t, "Accepted", x.accept(0, slot), true)
		x.choose(slot)
	}
}

func TestChosen(t *testing.T) {
	values := entries(none(1, 9), named(2, 9, "x"), none(3, 9), named(4, 9, "y"), term(5, 9))
	for slot := 1; slot <= 5; slot++ {
		x := readyBoth(t, 3, 9, 1, named(2, 1, "x"), named(4, 1, "y"))
		left := slices.Delete(slices.Clone(values), slot-1, slot)
		for range 3 {
			x.choose(slot)
			mustBe(t, "Open", x.p.Open(), left)
			mustBe(t, "Values", x.p.Values(), values)
		}
		must(t, "one", x.accept(0, slot), false)
		must(t, "two", x.accept(1, slot), false)
		for _, e := range left {
			must(t, "another", x.accept(0, e.Slot), false)
			must(t, "another", x.accept(1, e.Slot), true)
		}
	}
}

func TestChosenOfASlotThatIsNotOpen(t *testing.T) {
	x := readyBoth(t, 1, 9, 3, named(4, 1, "x"))
	for _, slot := range beside(2, 6, 9) {
		if slot < 3 || slot > 5 {
			x.choose(slot)
			mustBe(t, "Open", x.p.Open(), x.p.Values())
		}
	}
	for slot := 6; slot < 12; slot++ { // what was not open yet is opened nonetheless
		if e := x.propose(command("a")); e != named(slot, 9, "a") {
			t.Fatalf("%v", e)
		}
		must(t, "Accepted", x.accept(0, slot), true)
	}
}

func TestChosenAheadOfReady(t *testing.T) {
	x := newBoth(t, 3, 9, 1)
	for slot := range 5 {
		x.choose(slot)
	}
	x.promise(0, named(2, 1, "x"))
	for slot := range 5 {
		x.choose(slot)
	}
	x.promise(1)
	mustBe(t, "Open", x.p.Open(), entries(none(1, 9), named(2, 9, "x"), term(3, 9)))
}

// Slots that are chosen in any order leave the others open, in their order.
func TestChosenInAnyOrder(t *testing.T) {
	for seed := range uint64(300) {
		r := rand.New(rand.NewPCG(161, seed))
		x := readyBoth(t, 3, 9, 1, named(3, 1, "x"), named(6, 1, "y"))
		for i := range 5 {
			x.propose(command(strconv.Itoa(i)))
		}
		for _, i := range r.Perm(12) {
			x.choose(i + 1)
			if r.IntN(3) == 0 {
				x.propose(command("between"))
			}
		}
	}
}

// Calls that do not count change nothing: what comes behind is answered as without them.
func TestWhatDoesNotCountChangesNothing(t *testing.T) {
	idle := func(x both) {
		for _, server := range beside(3) {
			if server < 0 || server > 2 {
				x.promise(server, named(1, 8, "wrong"), named(6, 8, "wrong"))
				x.accept(server, 1)
				x.accept(server, 4)
			}
		}
		if x.q.ready {
			x.promise(1, named(1, 8, "late"))
		} else {
			x.propose(command("early"))
			x.accept(1, 1)
			x.choose(1)
		}
		for _, slot := range []int{least, 0, 9, greatest} {
			x.accept(2, slot)
			x.choose(slot)
		}
	}
	with, without := newBoth(t, 3, 9, 1), newBoth(t, 3, 9, 1)
	for i, do := range []func(x both) bool{
		func(x both) bool { return x.promise(0, named(2, 1, "x")) }, func(x both) bool { return x.promise(2, named(2, 2, "y")) },
		func(x both) bool { return x.accept(1, 1) }, func(x both) bool { return x.propose(command("a")) == named(4, 9, "a") }, func(x both) bool { return x.accept(0, 1) },
		func(x both) bool { x.choose(1); return x.accept(2, 4) }, func(x both) bool { return x.accept(0, 4) }, func(x both) bool { return x.propose(command("b")) == named(5, 9, "b") },
	} {
		idle(with)
		got, want := do(with), do(without)
		if got != want {
			t.Fatalf("the %dth: %t", i, got)
		}
		mustBe(t, "Values", with.p.Values(), without.p.Values())
		mustBe(t, "Open", with.p.Open(), without.p.Open())
	}
}

// A promise may tell of a slot very far behind the others: all but what lists the slots between is answered at once.
func TestFarSlots(t *testing.T) {
	for _, far := range []int{1 << 31, 1 << 40, 1 << 62, greatest - 3} {
		p := proposer.New(3, 9, -5)
		must(t, "first", p.Promise(0, entries(named(far, 1, "x"), named(0, 1, "y"))), false)
		must(t, "second", p.Promise(1, entries(named(far/2, 1, "z"))), true)
		must(t, "Ready", p.Ready(), true)
		if e := p.Propose(command("a")); e != named(far+2, 9, "a") {
			t.Fatalf("%v", e)
		}
		for _, slot := range []int{-5, -4, 0, 1, far / 2, far - 1, far, far + 1, far + 2} {
			must(t, "one", p.Accepted(0, slot), false)
			must(t, "two", p.Accepted(2, slot), true)
			p.Chosen(slot)
			must(t, "chosen", p.Accepted(1, slot), false)
		}
		for _, slot := range []int{least, -6, far + 3, greatest} {
			must(t, "not open", p.Accepted(0, slot) || p.Accepted(1, slot), false)
		}
		must(t, "still open", p.Accepted(0, far/3), false)
		must(t, "still open", p.Accepted(1, far/3), true)
		if e := p.Propose(command("b")); e != named(far+3, 9, "b") {
			t.Fatalf("%v", e)
		}
	}
}

// Behind the greatest int there is no slot: what would stand there is left out.
func TestTheLastSlots(t *testing.T) {
	p := proposer.New(1, 9, greatest-1)
	must(t, "one slot is left", p.Promise(0, nil), true)
	mustBe(t, "Values", p.Values(), entries(term(greatest-1, 9)))
	if e := p.Propose(command("a")); e != named(greatest, 9, "a") {
		t.Fatalf("%v", e)
	}
	mustFull(t, p, entries(term(greatest-1, 9), named(greatest, 9, "a")))

	p = proposer.New(1, 9, greatest)
	must(t, "for the term alone", p.Promise(0, nil), true)
	mustFull(t, p, entries(term(greatest, 9)))

	p = proposer.New(1, 9, greatest-1)
	must(t, "for the term", p.Promise(0, entries(named(greatest-1, 1, "x"))), true)
	mustFull(t, p, entries(named(greatest-1, 9, "x"), term(greatest, 9)))

	p = proposer.New(1, 9, greatest-2)
	must(t, "not for the term", p.Promise(0, entries(named(greatest, 1, "x"))), true)
	mustBe(t, "Values", p.Values(), entries(none(greatest-2, 9), none(greatest-1, 9), named(greatest, 9, "x")))
	mustFull(t, p, p.Values())

	p = proposer.New(1, 9, greatest)
	must(t, "not for the term", p.Promise(0, entries(named(greatest, 1, "x"))), true)
	mustFull(t, p, entries(named(greatest, 9, "x")))
}

// mustFull looks whether there is no slot left behind those that are open.
func mustFull(t *testing.T, p *proposer.Proposer, open []api.Entry) {
	t.Helper()
	for len(open) > 0 {
		mustBe(t, "Open", p.Open(), open)
		if e := p.Propose(command("none")); e != (api.Entry{}) {
			t.Fatalf("%v", e)
		}
		must(t, "Accepted", p.Accepted(0, open[0].Slot), true)
		p.Chosen(open[0].Slot)
		open = open[1:]
	}
	mustBe(t, "Open", p.Open(), nil)
	if e := p.Propose(command("none")); e != (api.Entry{}) {
		t.Fatalf("%v", e)
	}
}

func TestNil(t *testing.T) {
	for _, p := range []*proposer.Proposer{nil, {}} {
		must(t, "Promise", p.Promise(0, entries(named(1, 1, "x"))), false)
		must(t, "Ready", p.Ready(), false)
		mustBe(t, "Values", p.Values(), nil)
		must(t, "Accepted", p.Accepted(0, 1), false)
		if e := p.Propose(command("a")); e != (api.Entry{}) {
			t.Fatalf("%v", e)
		}
		mustBe(t, "Open", p.Open(), nil)
		p.Chosen(1)
		p.Chosen(0)
		must(t, "Ready", p.Ready(), false)
	}
}

func TestMany(t *testing.T) {
	const many = 200000
	var l []api.Entry
	for slot := many; slot > 0; slot-- {
		l = append(l, none(slot, 1))
	}
	p := proposer.New(3, 9, 1)
	p.Promise(0, l)
	must(t, "Promise", p.Promise(1, l), true)
	if n := len(p.Values()); n != many+1 {
		t.Fatalf("%d values", n)
	}
	for i := range many {
		if e := p.Propose(api.Cmd{}); e.Slot != many+2+i {
			t.Fatalf("%v", e)
		}
	}
	for slot := 2; slot <= 2*many; slot++ {
		p.Accepted(0, slot)
		must(t, "Accepted", p.Accepted(1, slot), true)
		p.Chosen(slot)
	}
	mustBe(t, "Open", p.Open(), entries(none(1, 9), none(2*many+1, 9)))
}

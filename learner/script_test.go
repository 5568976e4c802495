package learner_test

import (
	"math/rand/v2"
	"slices"
	"strconv"
	"testing"

	"latchkey/api"
	"latchkey/learner"
)

// Runs of all calls one behind the other, and promise 17.2.

// do does one of the calls that change something, on slots near base, and gives what it told.
func (x both) do(r *rand.Rand, base int) []api.Entry {
	x.t.Helper()
	slot := base + r.IntN(16) - 2
	if base >= greatest-20 {
		slot = greatest - r.IntN(16)
	}
	if r.IntN(30) == 0 {
		slot = beside()[r.IntN(8)]
	}
	switch r.IntN(10) {
	case 0:
		if r.IntN(3) == 0 {
			return x.jump(slot)
		}
		return x.jump(x.p.applied + min(r.IntN(4), greatest-x.p.applied))
	case 1, 2:
		x.forget(slot)
		return nil
	default:
		return x.learn(named(slot, 1+r.IntN(4), strconv.Itoa(r.IntN(1000))))
	}
}

var bases = []int{least, -3, 0, 1, 5, 1 << 40, greatest - 20, greatest - 12, greatest - 1}

// Of each run, what is told rises; a slot is missed only where a jump went past it.
func TestRuns(t *testing.T) {
	count := 0
	for seed := range uint64(3000) {
		r := rand.New(rand.NewPCG(171, seed))
		base := bases[r.IntN(len(bases))]
		x := newBoth(t, base)
		var told []api.Entry
		for range 40 {
			told = append(told, x.do(r, base)...)
		}
		for i := 1; i < len(told); i++ {
			if told[i].Slot <= told[i-1].Slot {
				t.Fatalf("told %v", told)
			}
		}
		count += len(told)
	}
	if count < 9000 {
		t.Fatalf("%d entries were told", count)
	}
}

// Rule R5: the same calls are answered the same.
func TestTheSameAgain(t *testing.T) {
	run := func(seed uint64) []api.Entry {
		r := rand.New(rand.NewPCG(172, seed))
		x := newBoth(t, 0)
		var told []api.Entry
		for range 40 {
			told = append(append(told, x.do(r, 0)...), x.l.Since(r.IntN(9), 9)...)
		}
		return told
	}
	for seed := range uint64(300) {
		mustBe(t, "again", run(seed), run(seed))
	}
}

// orders goes over all orders of l.
func orders(l []int, each func(l []int)) {
	var more func(ahead, left []int)
	more = func(ahead, left []int) {
		if len(left) == 0 {
			each(ahead)
		}
		for i, n := range left {
			more(append(slices.Clone(ahead), n), slices.Delete(slices.Clone(left), i, i+1))
		}
	}
	more(nil, l)
}

// tell lets a new learner learn slots in that order, and gives all that is told.
func tell(base int, slots []int) []api.Entry {
	l := learner.New(base)
	var told []api.Entry
	for _, e := range terms(slots...) {
		told = append(told, l.Learn(e)...)
	}
	return told
}

// Whatever the order of six slots, with one ahead of the base and one twice: each is told once, in order.
func TestAllOrders(t *testing.T) {
	for _, base := range []int{0, 1, 1 << 40, greatest - 6} {
		all := []int{base + 1, base + 2, base + 3, base + 4, base + 5, base + 6}
		orders(all, func(l []int) {
			mustBe(t, "each once", tell(base, l), terms(all...))
			mustBe(t, "each twice", tell(base, append(slices.Clone(l), l...)), terms(all...))
			mustBe(t, "others between", tell(base, slices.Insert(slices.Clone(l), 3, base, l[1], l[4], base-1)), terms(all...))
			missing := slices.DeleteFunc(slices.Clone(l), func(slot int) bool { return slot == base+4 })
			mustBe(t, "one is missing", tell(base, missing), terms(all[:3]...))
		})
	}
}

// T1: what two learners of the same log apply, one is a beginning of the other, at each moment.
func TestOneIsABeginningOfTheOther(t *testing.T) {
	const slots = 30
	for seed := range uint64(200) {
		r := rand.New(rand.NewPCG(173, seed))
		var told [2][]api.Entry
		ls := []*learner.Learner{learner.New(0), learner.New(0)}
		a, b := append(r.Perm(slots), r.Perm(slots)...), r.Perm(slots)
		for len(a)+len(b) > 0 {
			at, from := 0, &a
			if len(a) == 0 || len(b) > 0 && r.IntN(2) == 0 {
				at, from = 1, &b
			}
			e := term((*from)[0]+1, (*from)[0])
			*from = (*from)[1:]
			told[at] = append(told[at], ls[at].Learn(e)...)
			short := min(len(told[0]), len(told[1]))
			mustBe(t, "a beginning", told[0][:short], told[1][:short])
			if last := ls[at].Applied(); last != len(told[at]) {
				t.Fatalf("Applied %d, told %v", last, told[at])
			}
		}
		if len(told[0]) != slots || len(told[1]) != slots {
			t.Fatalf("%d, %d", len(told[0]), len(told[1]))
		}
	}
}

// Many slots in orders of all kinds, many jumps over what waits, many that are forgotten: none of it takes long.
func TestManySlots(t *testing.T) {
	const count = 200000
	var rising, falling, mixed []int
	for i := range count {
		rising, falling = append(rising, i+1), append(falling, count-i)
		mixed = append(mixed, i*77777%count+1) // 77777 and count have no divisor in common: so each slot once
	}
	firstLast := append(slices.Clone(rising[1:]), 1)
	for _, l := range [][]int{rising, falling, mixed, firstLast} {
		mustBe(t, "many", tell(0, l), terms(rising...))
	}
	l := learner.New(0)
	for slot := 1; slot <= count; slot++ {
		l.Learn(term(slot, slot))
	}
	mustBe(t, "Since", l.Since(1, greatest), terms(rising...))
	mustBe(t, "Since", l.Since(9, count-9), terms(rising[8:count-1]...))
	for slot := 1; slot <= count; slot++ {
		l.Forget(slot)
		if _, there := l.Known(slot); there || len(l.Since(slot+1, 1)) != min(count-slot, 1) {
			t.Fatalf("slot %d", slot)
		}
	}
	l = learner.New(0)
	for i := count; i > 0; i-- {
		l.Learn(term(i<<20, i))
	}
	for i := 1; i <= count; i++ {
		mustBe(t, "Jump", l.Jump(i<<20-1), []api.Entry{term(i<<20, i)})
	}
}

package durable_test

import (
	"fmt"
	"maps"
	"math"
	"math/rand/v2"
	"slices"
	"strings"
	"testing"
	"unsafe"

	"latchkey/api"
	"latchkey/durable"
)

const high = 1 << 40 // the greatest ballot, the greatest slot

func promise(n int) api.Rec { return api.Rec{Kind: api.RecPromise, N: n} }

func accept(slot, ballot int) api.Rec {
	return api.Rec{Kind: api.RecAccept, Entry: entry(slot, ballot)}
}

func entry(slot, ballot int) api.Entry { return api.Entry{Slot: slot, Ballot: ballot} }

// named gives an entry whose command has a name.
func named(slot, ballot int, name string) api.Entry {
	return api.Entry{Slot: slot, Ballot: ballot, Cmd: api.Cmd{Kind: api.CmdLock, Session: 3, Seq: 1, Name: name}}
}

func lock(slot, ballot int, name string) api.Rec {
	return api.Rec{Kind: api.RecAccept, Entry: named(slot, ballot, name)}
}

func recs(l ...api.Rec) []api.Rec { return l }

func entries(l ...api.Entry) []api.Entry { return l }

// equal is what Same must be, said in another way.
func equal(a, b api.Durable) bool {
	if a.Promised != b.Promised || a.Base != b.Base || a.Snap != b.Snap || len(a.Entries) != len(b.Entries) {
		return false
	}
	for i := range a.Entries {
		if a.Entries[i] != b.Entries[i] {
			return false
		}
	}
	return true
}

// show gives the front of a state that may be long.
func show(d api.Durable) string {
	count := len(d.Entries)
	d.Snap, d.Entries = d.Snap[:min(len(d.Snap), 40)], d.Entries[:min(count, 12)]
	return fmt.Sprintf("%v of %d entries", d, count)
}

func mustState(t *testing.T, what string, got, want api.Durable) {
	t.Helper()
	if !equal(got, want) {
		t.Fatalf("%s: %s, not %s", what, show(got), show(want))
	}
}

func mustFold(t *testing.T, what string, d api.Durable, l []api.Rec, want api.Durable) {
	t.Helper()
	mustState(t, what, durable.Fold(d, l), want)
}

func mustRecs(t *testing.T, what string, got, want []api.Rec) {
	t.Helper()
	if !slices.Equal(got, want) {
		t.Fatalf("%s: %v, not %v", what, got, want)
	}
}

// plainFold is Fold by the chapter's words, over a map.
func plainFold(d api.Durable, l []api.Rec) api.Durable {
	bySlot := map[int]api.Entry{}
	for _, e := range d.Entries {
		bySlot[e.Slot] = e
	}
	for _, r := range l {
		n := 0
		if r.Kind == api.RecPromise {
			n = r.N
		}
		if r.Kind == api.RecAccept {
			n = r.Entry.Ballot
			if r.Entry.Slot > d.Base {
				bySlot[r.Entry.Slot] = r.Entry
			}
		}
		if n > d.Promised {
			d.Promised = n
		}
	}
	d.Entries = nil
	for _, slot := range slices.Sorted(maps.Keys(bySlot)) {
		d.Entries = append(d.Entries, bySlot[slot])
	}
	return d
}

// Promise 13.1.

func TestExamples(t *testing.T) {
	d := durable.Fold(api.Durable{}, recs(promise(9), accept(3, 17)))
	mustState(t, "Fold", d, api.Durable{Promised: 17, Entries: entries(entry(3, 17))})
	mustRecs(t, "Recs", durable.Recs(d), recs(promise(17), accept(3, 17)))
}

func TestFoldOfNoRecords(t *testing.T) {
	states := []api.Durable{{}, {Promised: 9}, {Base: 5, Snap: "x"}, {Promised: 17, Base: 2, Snap: "text", Entries: entries(named(3, 9, "a"), entry(7, 17))}, {Entries: entries()}}
	for _, d := range states {
		for _, none := range [][]api.Rec{nil, {}, recs(promise(99))[:0]} {
			mustFold(t, "none", d, none, d)
		}
	}
}

func TestFoldOfAnotherKind(t *testing.T) {
	d := api.Durable{Promised: 9, Base: 2, Snap: "s", Entries: entries(entry(3, 9), entry(5, 9))}
	for _, kind := range []int{0, 3, 4, -1, 257, 258, math.MinInt, math.MaxInt} {
		r := api.Rec{Kind: kind, N: 33, Entry: named(4, 41, "a")}
		mustFold(t, "alone", d, recs(r), d)
		mustFold(t, "twice", d, recs(r, r), d)
		mustFold(t, "among others", d, recs(r, promise(17), r, accept(6, 17), r), api.Durable{Promised: 17, Base: 2, Snap: "s", Entries: entries(entry(3, 9), entry(5, 9), entry(6, 17))})
	}
}

func TestFoldOfPromises(t *testing.T) {
	for _, c := range []struct{ promised, n, want int }{
		{0, 1, 1}, {0, 9, 9}, {0, high, high}, {9, 1, 9}, {9, 8, 9}, {9, 9, 9}, {9, 10, 10}, {9, high, high}, {high, 1, high}, {high, high - 1, high}, {high, high, high}, {high - 1, high, high},
	} {
		d := api.Durable{Promised: c.promised, Base: 4, Snap: "s", Entries: entries(named(5, 1, "a"))}
		want := d
		want.Promised = c.want
		mustFold(t, "promise", d, recs(promise(c.n)), want)
		mustFold(t, "promises", d, recs(promise(c.n), promise(1), promise(c.n)), want)
	}
	mustFold(t, "rising", api.Durable{}, recs(promise(9), promise(17), promise(25)), api.Durable{Promised: 25})
	mustFold(t, "falling", api.Durable{}, recs(promise(25), promise(17), promise(9)), api.Durable{Promised: 25})
}

// An acceptance alone is a promise of its ballot, too.
func TestFoldOfBallots(t *testing.T) {
	for _, c := range []struct{ promised, ballot, want int }{{0, 1, 1}, {9, 1, 9}, {9, 8, 9}, {9, 9, 9}, {9, 10, 10}, {9, high, high}, {high, 1, high}, {high, high, high}} {
		for _, slot := range []int{1, 3, 4, 5, 6, high} { // at and below Base, too
			d := api.Durable{Promised: c.promised, Base: 4, Snap: "s"}
			want := api.Durable{Promised: c.want, Base: 4, Snap: "s"}
			if slot > 4 {
				want.Entries = entries(named(slot, c.ballot, "a"))
			}
			mustFold(t, "accept", d, recs(lock(slot, c.ballot, "a")), want)
		}
	}
}

func TestFoldAtBesideAndAboveBase(t *testing.T) {
	for _, base := range []int{0, 1, 2, 7, high - 1, high} {
		for _, slot := range []int{1, base - 1, base, base + 1, base + 2, high} {
			if slot < 1 || slot > high {
				continue
			}
			want := api.Durable{Promised: 9, Base: base, Snap: "s"}
			if slot > base {
				want.Entries = entries(named(slot, 9, "a"))
			}
			mustFold(t, "one", api.Durable{Base: base, Snap: "s"}, recs(lock(slot, 9, "a")), want)
		}
	}
	d := api.Durable{Promised: 9, Base: 7, Snap: "s", Entries: entries(entry(8, 9), entry(10, 9))}
	mustFold(t, "below", d, recs(accept(6, 9), accept(7, 9), accept(1, 17)), api.Durable{Promised: 17, Base: 7, Snap: "s", Entries: d.Entries})
}

func TestFoldPutsEntriesInTheirPlaces(t *testing.T) {
	d := api.Durable{Promised: 17, Base: 2, Snap: "s", Entries: entries(named(4, 9, "a"), named(6, 9, "b"), named(9, 17, "c"))}
	with := func(l ...api.Entry) api.Durable {
		return api.Durable{Promised: 17, Base: 2, Snap: "s", Entries: l}
	}
	a, b, c := d.Entries[0], d.Entries[1], d.Entries[2]
	for _, ballot := range []int{1, 9, 17} { // a lower one than that of the entry that is there takes its place, too
		x := func(slot int) api.Entry { return named(slot, ballot, "x") }
		rec := func(slot int) api.Rec { return lock(slot, ballot, "x") }
		mustFold(t, "ahead", d, recs(rec(3)), with(x(3), a, b, c))
		mustFold(t, "the first", d, recs(rec(4)), with(x(4), b, c))
		mustFold(t, "between", d, recs(rec(5)), with(a, x(5), b, c))
		mustFold(t, "in the midst", d, recs(rec(6)), with(a, x(6), c))
		mustFold(t, "between", d, recs(rec(7)), with(a, b, x(7), c))
		mustFold(t, "between", d, recs(rec(8)), with(a, b, x(8), c))
		mustFold(t, "the last", d, recs(rec(9)), with(a, b, x(9)))
		mustFold(t, "behind", d, recs(rec(10)), with(a, b, c, x(10)))
		mustFold(t, "far behind", d, recs(rec(high)), with(a, b, c, x(high)))
		mustFold(t, "all of it", d, recs(rec(10), rec(9), rec(7), rec(6), rec(5), rec(4), rec(3), rec(2), rec(1)), with(x(3), x(4), x(5), x(6), x(7), x(9), x(10)))
	}
}

// Of several acceptances of one slot the last counts, wherever the slot lies.
func TestFoldKeepsTheLast(t *testing.T) {
	d := api.Durable{Promised: 9, Entries: entries(entry(4, 9), entry(8, 9))}
	for _, slot := range []int{1, 4, 5, 8, 9} {
		l := recs(lock(slot, 17, "first"), lock(slot, 25, "second"), lock(7, 2, "other"), lock(slot, 9, "third"))
		got := durable.Fold(d, l)
		mustState(t, "Fold", got, plainFold(d, l))
		at := slices.IndexFunc(got.Entries, func(e api.Entry) bool { return e.Slot == slot })
		if at < 0 || got.Entries[at] != named(slot, 9, "third") || got.Promised != 25 {
			t.Errorf("%v", got)
		}
	}
	mustFold(t, "alone", api.Durable{}, recs(lock(3, 9, "a"), lock(3, 9, "b"), lock(3, 9, "c")), api.Durable{Promised: 9, Entries: entries(named(3, 9, "c"))})
	mustFold(t, "ahead", api.Durable{}, recs(accept(9, 9), lock(3, 9, "a"), lock(3, 9, "b"), lock(3, 9, "c")), api.Durable{Promised: 9, Entries: entries(named(3, 9, "c"), entry(9, 9))})
}

// someRecs gives n records of few slots and ballots, so that they meet.
func someRecs(x *rand.Rand, n int) []api.Rec {
	var l []api.Rec
	for range n {
		switch slot, ballot := 1+x.IntN(12), 1+x.IntN(40); x.IntN(5) {
		case 0:
			l = append(l, promise(ballot))
		case 1:
			l = append(l, accept(slot, ballot))
		default:
			l = append(l, lock(slot, ballot, strings.Repeat("n", 1+x.IntN(3))))
		}
	}
	return l
}

// someState gives one as the calls make them.
func someState(x *rand.Rand) api.Durable {
	base := x.IntN(6)
	d := plainFold(api.Durable{Base: base}, someRecs(x, x.IntN(10)))
	if base > 0 {
		d.Snap = strings.Repeat("s", x.IntN(4))
	}
	return d
}

func TestFoldAgainstThePlainWords(t *testing.T) {
	for seed := range uint64(20000) {
		x := rand.New(rand.NewPCG(131, seed))
		d, l := someState(x), someRecs(x, x.IntN(14))
		mustFold(t, "Fold", d, l, plainFold(d, l))
	}
}

func TestFoldOneByOneAndAllAtOnce(t *testing.T) {
	for seed := range uint64(5000) {
		x := rand.New(rand.NewPCG(132, seed))
		d, l := someState(x), someRecs(x, x.IntN(14))
		want := durable.Fold(d, l)
		one := d
		for _, r := range l {
			one = durable.Fold(one, recs(r))
		}
		mustState(t, "one by one", one, want)
		at := x.IntN(len(l) + 1)
		mustState(t, "in two", durable.Fold(durable.Fold(d, l[:at]), l[at:]), want)
		mustState(t, "again", durable.Fold(d, l), want)
		mustState(t, "twice", durable.Fold(want, l), want)
	}
}

// Slots that fall, slots that jump, and slots that come again: many of them are folded in no time, too.
func TestFoldOfMany(t *testing.T) {
	const n = 200000
	ways := []func(i int) int{
		func(i int) int { return i + 1 },
		func(i int) int { return n - i },
		func(i int) int { return (i*7919)%n + 1 },
		func(i int) int { return i%1000 + 1 },
		func(i int) int { return n - i%1000 },
	}
	for _, slotOf := range ways {
		var l []api.Rec
		for i := range n {
			l = append(l, accept(slotOf(i), i+1))
		}
		d := api.Durable{Base: 10, Entries: entries(entry(11, 1), entry(n/2, 1), entry(n+5, 1))}
		mustFold(t, "many", d, l, plainFold(d, l))
	}
}

func TestRecs(t *testing.T) {
	mustRecs(t, "nothing", durable.Recs(api.Durable{}), nil)
	mustRecs(t, "no entries", durable.Recs(api.Durable{Entries: entries()}), nil)
	mustRecs(t, "a snapshot", durable.Recs(api.Durable{Base: 5, Snap: "x"}), nil)
	mustRecs(t, "a promise", durable.Recs(api.Durable{Promised: 1, Base: 5, Snap: "x"}), recs(promise(1)))
	mustRecs(t, "the greatest", durable.Recs(api.Durable{Promised: high}), recs(promise(high)))
	mustRecs(t, "no promise", durable.Recs(api.Durable{Entries: entries(named(3, 9, "a"))}), recs(lock(3, 9, "a")))
	mustRecs(t, "below 0", durable.Recs(api.Durable{Promised: -1, Entries: entries(entry(3, 9))}), recs(accept(3, 9)))
	mustRecs(t, "least", durable.Recs(api.Durable{Promised: math.MinInt}), nil)
	all := entries(named(3, 9, "a"), entry(4, 1), named(9, 17, "b"), entry(high, 2))
	mustRecs(t, "all", durable.Recs(api.Durable{Promised: 17, Base: 2, Snap: "s", Entries: all}), recs(promise(17), lock(3, 9, "a"), accept(4, 1), lock(9, 17, "b"), accept(high, 2)))
}

// What Fold makes of a snapshot and Recs is the state itself.
func TestRecsAndBack(t *testing.T) {
	for seed := range uint64(5000) {
		x := rand.New(rand.NewPCG(133, seed))
		d := someState(x)
		l := durable.Recs(d)
		mustRecs(t, "again", durable.Recs(d), l)
		mustFold(t, "back", api.Durable{Base: d.Base, Snap: d.Snap}, l, d)
	}
}

func mustSame(t *testing.T, a, b api.Durable, want bool) {
	t.Helper()
	if durable.Same(a, b) != want || durable.Same(b, a) != want {
		t.Errorf("Same of %v and %v is not %t", a, b, want)
	}
}

func sampleState() api.Durable {
	return api.Durable{Promised: 17, Base: 2, Snap: "text", Entries: entries(named(3, 9, "a"), named(4, 17, "b"), entry(7, 17))}
}

func TestSame(t *testing.T) {
	mustSame(t, api.Durable{}, api.Durable{}, true)
	mustSame(t, sampleState(), sampleState(), true)
	mustSame(t, sampleState(), api.Durable{}, false)
	changes := []func(d *api.Durable){
		func(d *api.Durable) { d.Promised++ }, func(d *api.Durable) { d.Promised = 0 }, func(d *api.Durable) { d.Promised = -17 },
		func(d *api.Durable) { d.Base++ }, func(d *api.Durable) { d.Base = 0 },
		func(d *api.Durable) { d.Snap = "" }, func(d *api.Durable) { d.Snap = "texu" }, func(d *api.Durable) { d.Snap = "tex" }, func(d *api.Durable) { d.Snap = "text\x00" },
		func(d *api.Durable) { d.Entries = nil }, func(d *api.Durable) { d.Entries = d.Entries[:2] }, func(d *api.Durable) { d.Entries = d.Entries[1:] },
		func(d *api.Durable) { d.Entries = append(d.Entries, entry(8, 17)) }, func(d *api.Durable) { d.Entries = append(d.Entries, d.Entries[2]) },
		func(d *api.Durable) { d.Entries[0], d.Entries[1] = d.Entries[1], d.Entries[0] },
	}
	for at := range 3 {
		for _, change := range []func(e *api.Entry){
			func(e *api.Entry) { e.Slot += 100 }, func(e *api.Entry) { e.Ballot++ }, func(e *api.Entry) { e.Cmd.Kind++ }, func(e *api.Entry) { e.Cmd.Session++ },
			func(e *api.Entry) { e.Cmd.Seq++ }, func(e *api.Entry) { e.Cmd.Name += "x" }, func(e *api.Entry) { e.Cmd.N++ },
		} {
			changes = append(changes, func(d *api.Durable) { change(&d.Entries[at]) })
		}
	}
	for _, change := range changes {
		d := sampleState()
		change(&d)
		mustSame(t, d, sampleState(), false)
		mustSame(t, d, d, true)
	}
}

func TestSameOfNoEntries(t *testing.T) {
	for _, a := range [][]api.Entry{nil, {}, entries(entry(1, 1))[:0], make([]api.Entry, 0, 4)} {
		for _, b := range [][]api.Entry{nil, {}, make([]api.Entry, 0, 1)} {
			mustSame(t, api.Durable{Promised: 9, Entries: a}, api.Durable{Promised: 9, Entries: b}, true)
			mustSame(t, api.Durable{Promised: 9, Entries: a}, api.Durable{Promised: 8, Entries: b}, false)
		}
		mustSame(t, api.Durable{Entries: a}, api.Durable{Entries: entries(api.Entry{})}, false)
	}
}

// What lies in other memory is the same, too; so is what lies in the same.
func TestSameLooksAtBytes(t *testing.T) {
	a, b := sampleState(), sampleState()
	b.Snap, b.Entries[0].Cmd.Name = strings.Clone(b.Snap), strings.Clone("a")
	mustSame(t, a, b, true)
	b.Entries = a.Entries
	mustSame(t, a, b, true)
}

// ints are at and beside each bound.
var ints = []int{math.MinInt, math.MinInt + 1, -high, -2, -1, 0, 1, 2, 3, 9, high - 1, high, high + 1, math.MaxInt - 1, math.MaxInt}

// Of states and records that no call makes it is asked only that an answer comes.
func TestAnyStatesAndRecords(t *testing.T) {
	for seed := range uint64(5000) {
		x := rand.New(rand.NewPCG(134, seed))
		n := func() int { return ints[x.IntN(len(ints))] }
		some := func() api.Entry {
			return api.Entry{Slot: n(), Ballot: n(), Cmd: api.Cmd{Kind: n(), Session: n(), Seq: n(), Name: strings.Repeat("x", x.IntN(100)), N: n()}}
		}
		d := api.Durable{Promised: n(), Base: n(), Snap: "s"}
		var l []api.Rec
		for range x.IntN(8) {
			d.Entries = append(d.Entries, some())
			l = append(l, api.Rec{Kind: x.IntN(4), N: n(), Entry: some()})
		}
		got := durable.Fold(d, l)
		mustState(t, "again", durable.Fold(d, l), got)
		if got.Promised < d.Promised || got.Base != d.Base || got.Snap != d.Snap {
			t.Fatalf("%v", got)
		}
		durable.Recs(got)
		mustSame(t, got, got, true)
	}
}

// text gives a string that lies in the bytes b.
func text(b []byte) string { return unsafe.String(unsafe.SliceData(b), len(b)) }

// lent is a state and records whose lists have more behind their ends, and whose texts lie in memory that may be written over.
type lent struct {
	d     api.Durable
	l     []api.Rec
	bytes [][]byte
}

func lend() *lent {
	k := &lent{}
	text := func(s string) string {
		k.bytes = append(k.bytes, []byte(s))
		return text(k.bytes[len(k.bytes)-1])
	}
	rows := entries(named(3, 9, text("three")), named(5, 9, text("five")), named(9, 9, text("nine")), named(99, 9, text("behind")), named(100, 9, text("behind")))
	k.d = api.Durable{Promised: 9, Base: 2, Snap: text("snapshot"), Entries: rows[:3]}
	k.l = recs(lock(5, 17, text("anew")), lock(10, 17, text("ten")), lock(4, 17, text("four")), lock(7, 17, text("seven")), lock(4, 25, text("four again")), promise(33), lock(77, 1, text("behind")))[:6]
	return k
}

// spoil writes over all that was lent.
func (k *lent) spoil() {
	for _, b := range k.bytes {
		clear(b)
	}
	clear(k.d.Entries[:cap(k.d.Entries)])
	clear(k.l[:cap(k.l)])
}

func (k *lent) mustBeWhole(t *testing.T) {
	t.Helper()
	fresh := lend()
	mustState(t, "handed in", k.d, fresh.d)
	all := slices.Equal(k.d.Entries[:cap(k.d.Entries)], fresh.d.Entries[:cap(fresh.d.Entries)])
	if !all || !slices.Equal(k.l[:cap(k.l)], fresh.l[:cap(fresh.l)]) {
		t.Errorf("what was handed in was changed: %v %v", k.d.Entries[:cap(k.d.Entries)], k.l[:cap(k.l)])
	}
}

func TestFoldSharesNoMemory(t *testing.T) {
	k := lend()
	want := plainFold(lend().d, lend().l)
	first, second := durable.Fold(k.d, k.l), durable.Fold(k.d, k.l)
	none := durable.Fold(k.d, nil)
	k.mustBeWhole(t)
	spoilEntries(first.Entries)
	k.mustBeWhole(t)
	mustState(t, "another answer", second, want)
	k.spoil()
	mustState(t, "behind the spoiling", second, want)
	mustState(t, "of none", none, lend().d)
}

func TestFoldOfItsOwnAnswer(t *testing.T) {
	a := durable.Fold(lend().d, lend().l)
	b := durable.Fold(a, recs(accept(11, 41)))
	c := durable.Fold(a, recs(accept(12, 41)))
	want := plainFold(lend().d, lend().l)
	mustState(t, "a", a, want)
	mustState(t, "b", b, plainFold(want, recs(accept(11, 41))))
	mustState(t, "c", c, plainFold(want, recs(accept(12, 41))))
	for i := range a.Entries {
		for _, other := range []api.Durable{b, c} {
			if unsafe.StringData(a.Entries[i].Cmd.Name) == unsafe.StringData(other.Entries[i].Cmd.Name) {
				t.Errorf("the name of slot %d is shared", a.Entries[i].Slot)
			}
		}
	}
	if unsafe.StringData(a.Snap) == unsafe.StringData(b.Snap) || unsafe.StringData(b.Snap) == unsafe.StringData(c.Snap) {
		t.Error("the snapshot's text is shared")
	}
}

func TestRecsShareNoMemory(t *testing.T) {
	k := lend()
	want := durable.Recs(lend().d)
	first, second := durable.Recs(k.d), durable.Recs(k.d)
	k.mustBeWhole(t)
	clear(first[:cap(first)])
	mustRecs(t, "another answer", second, want)
	k.mustBeWhole(t)
	third := durable.Recs(k.d)
	for i := range second {
		if s := second[i].Entry.Cmd.Name; s != "" && unsafe.StringData(s) == unsafe.StringData(third[i].Entry.Cmd.Name) {
			t.Errorf("the name %q is shared", s)
		}
	}
	k.spoil()
	mustRecs(t, "behind the spoiling", second, want)
}

func TestSameChangesNothing(t *testing.T) {
	k, other := lend(), lend()
	if !durable.Same(k.d, other.d) {
		t.Error("not the same")
	}
	k.mustBeWhole(t)
	other.mustBeWhole(t)
}

func spoilEntries(l []api.Entry) { clear(l[:cap(l)]) }

package proposer_test

import (
	"maps"
	"math"
	"slices"
	"testing"

	"latchkey/api"
	"latchkey/proposer"
)

const (
	least    = math.MinInt
	greatest = math.MaxInt
)

func command(name string) api.Cmd {
	return api.Cmd{Kind: api.CmdLock, Session: 3, Seq: 1, Name: name}
}

// none is an entry without a command.
func none(slot, ballot int) api.Entry { return api.Entry{Slot: slot, Ballot: ballot} }

// named gives an entry whose command has a name.
func named(slot, ballot int, name string) api.Entry {
	return api.Entry{Slot: slot, Ballot: ballot, Cmd: command(name)}
}

// term gives the entry by which a ballot's term begins.
func term(slot, ballot int) api.Entry {
	return api.Entry{Slot: slot, Ballot: ballot, Cmd: api.Cmd{Kind: api.CmdTerm, N: ballot}}
}

func entries(l ...api.Entry) []api.Entry { return l }

// beside gives each of l and the numbers next to it, and the bounds.
func beside(l ...int) []int {
	all := []int{least, least + 1, -1, 0, 1, 2, greatest - 1, greatest}
	for _, n := range l {
		all = append(all, n)
		if n > least {
			all = append(all, n-1)
		}
		if n < greatest {
			all = append(all, n+1)
		}
	}
	slices.Sort(all)
	return slices.Compact(all)
}

// plain is a proposer by the chapter's words: it keeps all promises, and looks them through for each slot.
type plain struct {
	n, ballot, from int
	promised        map[int]bool
	told            []api.Entry // of all promises, in the order in which they came
	ready           bool
	values          []api.Entry
	next            int
	open            map[int]api.Entry
	accepted        map[[2]int]bool // a server, a slot
	done            map[int]bool    // slots that a majority accepted
}

func plainNew(n, ballot, from int) *plain {
	return &plain{n: n, ballot: ballot, from: from, promised: map[int]bool{}, open: map[int]api.Entry{}, accepted: map[[2]int]bool{}, done: map[int]bool{}}
}

// moreThanHalf tells whether so many are a majority of the servers.
func (p *plain) moreThanHalf(count int) bool { return count > p.n-count }

func (p *plain) promise(server int, l []api.Entry) bool {
	if p.ready || server < 0 || server >= p.n || p.promised[server] {
		return false
	}
	p.promised[server] = true
	p.told = append(p.told, l...)
	if !p.moreThanHalf(len(p.promised)) {
		return false
	}
	p.ready, p.values = true, p.first()
	for _, e := range p.values {
		p.open[e.Slot] = e
	}
	p.next = p.values[len(p.values)-1].Slot + 1
	return true
}

// first gives the Values.
func (p *plain) first() []api.Entry {
	end := p.from - 1
	for _, e := range p.told {
		end = max(end, e.Slot)
	}
	var l []api.Entry
	for slot := p.from; slot <= end; slot++ {
		l = append(l, api.Entry{Slot: slot, Ballot: p.ballot, Cmd: p.command(slot)})
	}
	return append(l, term(end+1, p.ballot))
}

// command gives that of the slot's entry with the greatest ballot: such that none ahead of it has as much, and none behind it more.
func (p *plain) command(slot int) api.Cmd {
	l := slices.DeleteFunc(slices.Clone(p.told), func(e api.Entry) bool { return e.Slot != slot })
	for i, e := range l {
		ahead := slices.ContainsFunc(l[:i], func(o api.Entry) bool { return o.Ballot >= e.Ballot })
		behind := slices.ContainsFunc(l[i+1:], func(o api.Entry) bool { return o.Ballot > e.Ballot })
		if !ahead && !behind {
			return e.Cmd
		}
	}
	return api.Cmd{}
}

func (p *plain) accept(server, slot int) bool {
	if _, open := p.open[slot]; !open || server < 0 || server >= p.n {
		return false
	}
	p.accepted[[2]int{server, slot}] = true
	count := 0
	for at := range p.accepted {
		if at[1] == slot {
			count++
		}
	}
	if p.done[slot] || !p.moreThanHalf(count) {
		return false
	}
	p.done[slot] = true
	return true
}

func (p *plain) propose(c api.Cmd) api.Entry {
	if !p.ready {
		return api.Entry{}
	}
	e := api.Entry{Slot: p.next, Ballot: p.ballot, Cmd: c}
	p.open[p.next] = e
	p.next++
	return e
}

func (p *plain) openEntries() []api.Entry {
	var l []api.Entry
	for _, slot := range slices.Sorted(maps.Keys(p.open)) {
		l = append(l, p.open[slot])
	}
	return l
}

// mustKnow looks whether all that can be asked of p is answered as by want.
func mustKnow(t *testing.T, what string, p *proposer.Proposer, want *plain) {
	t.Helper()
	if p.Ready() != want.ready {
		t.Fatalf("%s: ready %t", what, p.Ready())
	}
	mustBe(t, what+": Values", p.Values(), want.values)
	mustBe(t, what+": Open", p.Open(), want.openEntries())
}

func mustBe(t *testing.T, what string, got, want []api.Entry) {
	t.Helper()
	if !slices.Equal(got, want) {
		t.Fatalf("%s: %v, not %v", what, got, want)
	}
}

func must(t *testing.T, what string, got, want bool) {
	t.Helper()
	if got != want {
		t.Fatalf("%s: %t", what, got)
	}
}

// both is a proposer and the plain one, to which the same is done.
type both struct {
	t *testing.T
	p *proposer.Proposer
	q *plain
}

func newBoth(t *testing.T, n, ballot, from int) both {
	t.Helper()
	x := both{t, proposer.New(n, ballot, from), plainNew(n, ballot, from)}
	mustKnow(t, "New", x.p, x.q)
	return x
}

// readyBoth gives a ready one, of the first servers' promises; l is told by the last of them.
func readyBoth(t *testing.T, n, ballot, from int, l ...api.Entry) both {
	t.Helper()
	x := newBoth(t, n, ballot, from)
	for server := range n / 2 {
		must(t, "ahead of the last", x.promise(server), false)
	}
	must(t, "the last", x.promise(n/2, l...), true)
	return x
}

func (x both) promise(server int, l ...api.Entry) bool {
	x.t.Helper()
	got, want := x.p.Promise(server, l), x.q.promise(server, l)
	if got != want {
		x.t.Fatalf("Promise of %d: %t, not %t", server, got, want)
	}
	mustKnow(x.t, "Promise", x.p, x.q)
	return got
}

func (x both) accept(server, slot int) bool {
	x.t.Helper()
	got, want := x.p.Accepted(server, slot), x.q.accept(server, slot)
	if got != want {
		x.t.Fatalf("Accepted by %d of %d: %t, not %t", server, slot, got, want)
	}
	mustKnow(x.t, "Accepted", x.p, x.q)
	return got
}

func (x both) propose(c api.Cmd) api.Entry {
	x.t.Helper()
	got, want := x.p.Propose(c), x.q.propose(c)
	if got != want {
		x.t.Fatalf("Propose of %v: %v, not %v", c, got, want)
	}
	mustKnow(x.t, "Propose", x.p, x.q)
	return got
}

func (x both) choose(slot int) {
	x.t.Helper()
	x.p.Chosen(slot)
	delete(x.q.open, slot)
	mustKnow(x.t, "Chosen", x.p, x.q)
}

// Promise 16.1.

func TestExamples(t *testing.T) {
	x := newBoth(t, 3, 9, 1)
	must(t, "the first", x.promise(1), false)
	must(t, "the second", x.promise(2, named(2, 1, "x")), true)
	mustBe(t, "Values", x.p.Values(), entries(none(1, 9), named(2, 9, "x"), term(3, 9)))
	must(t, "accepted by one", x.accept(0, 1), false)
	must(t, "accepted by two", x.accept(2, 1), true)
}

// Of n servers, whatever their order, the one that makes more than a half of them makes it ready, and no other.
func TestAMajorityMakesItReady(t *testing.T) {
	for n, enough := range []int{1: 1, 2: 2, 3: 2, 4: 3, 5: 3, 6: 4, 7: 4, 8: 5} {
		for first := range n {
			for _, step := range []int{1, n - 1} { // rising and falling
				x := newBoth(t, n, 9, 1)
				for i := range n {
					server := (first + i*step) % n
					must(t, "Promise", x.promise(server), i+1 == enough)
					must(t, "Ready", x.p.Ready(), i+1 >= enough)
				}
			}
		}
	}
}

func TestFewerThanOneServer(t *testing.T) {
	for _, n := range []int{least, least + 1, -5, -1, 0} {
		x := newBoth(t, n, 9, 1)
		for _, server := range beside(n, 5) {
			must(t, "Promise", x.promise(server, named(1, 1, "x")), false)
		}
		must(t, "Accepted", x.accept(0, 1), false)
		if e := x.propose(command("a")); e != (api.Entry{}) {
			t.Fatalf("%v", e)
		}
	}
}

// One that is no server of the n promises nothing, though it tells of entries.
func TestPromisesOfNoServer(t *testing.T) {
	for _, n := range []int{1, 2, 3, 5} {
		x := newBoth(t, n, 9, 1)
		wrong := slices.DeleteFunc(beside(n, n+3, -n, api.MaxServers), func(s int) bool { return s >= 0 && s < n })
		for _, server := range wrong {
			must(t, "no server", x.promise(server, named(4, 8, "wrong")), false)
		}
		for server := range n / 2 {
			must(t, "ahead", x.promise(server), false)
			for _, other := range wrong {
				must(t, "no server", x.promise(other, named(4, 8, "wrong")), false)
			}
		}
		must(t, "n - 1", x.promise(n-1, named(2, 1, "right")), true)
		mustBe(t, "Values", x.p.Values(), entries(none(1, 9), named(2, 9, "right"), term(3, 9)))
	}
}

func TestManyServers(t *testing.T) {
	for _, n := range []int{greatest, greatest - 1, 1 << 40} {
		x := newBoth(t, n, 9, 1)
		for _, server := range []int{0, 1, n / 2, n - 2, n - 1} {
			must(t, "of many", x.promise(server, named(1, 1, "x")), false)
		}
	}
	const n = 100001
	p := proposer.New(n, 9, 1)
	for server := n - 1; server > n/2; server-- {
		must(t, "of 100001", p.Promise(server, nil), false)
		must(t, "again", p.Promise(server, nil), false)
	}
	must(t, "the last of a half", p.Promise(n/2, nil), true)
}

// The second promise of a server counts for nothing, though it tells of other entries.
func TestPromiseTwice(t *testing.T) {
	for _, n := range []int{2, 3, 4, 5} {
		x := newBoth(t, n, 17, 1)
		for server := range n / 2 {
			must(t, "first", x.promise(server, named(1, 1, "first")), false)
			must(t, "again", x.promise(server, named(1, 9, "again"), named(5, 9, "again")), false)
			must(t, "the same", x.promise(server, named(1, 1, "first")), false)
			must(t, "Ready", x.p.Ready(), false)
		}
		must(t, "another", x.promise(n-1), true)
		mustBe(t, "Values", x.p.Values(), entries(named(1, 17, "first"), term(2, 17)))
	}
}

func TestPromiseBehindReady(t *testing.T) {
	x := readyBoth(t, 5, 17, 1, named(1, 1, "first"))
	want := entries(named(1, 17, "first"), term(2, 17))
	for _, server := range beside(5) {
		must(t, "behind", x.promise(server, named(1, 9, "late"), named(2, 9, "late"), named(7, 9, "late")), false)
		must(t, "Ready", x.p.Ready(), true)
		mustBe(t, "Values", x.p.Values(), want)
		mustBe(t, "Open", x.p.Open(), want)
	}
	if e := x.propose(command("a")); e != named(3, 17, "a") {
		t.Fatalf("%v", e)
	}
}

func TestValues(t *testing.T) {
	for _, c := range []struct {
		what string
		a, b []api.Entry // promises, one behind the other
		want []api.Entry
	}{
		{"no entries", nil, entries(), entries(term(3, 17))},
		{"below from", entries(named(1, 9, "a"), named(2, 9, "b")), entries(named(least, 9, "c"), named(0, 9, "d")), entries(term(3, 17))},
		{"at from", entries(named(3, 9, "a")), nil, entries(named(3, 17, "a"), term(4, 17))},
		{"below, and at from", entries(named(2, 10, "b"), named(3, 9, "a")), nil, entries(named(3, 17, "a"), term(4, 17))},
		{"behind from", nil, entries(named(5, 9, "a")), entries(none(3, 17), none(4, 17), named(5, 17, "a"), term(6, 17))},
		{"gaps", entries(named(4, 1, "a"), named(7, 1, "b")), entries(named(9, 2, "c")), entries(none(3, 17), named(4, 17, "a"), none(5, 17), none(6, 17), named(7, 17, "b"), none(8, 17), named(9, 17, "c"), term(10, 17))},
		{"falling slots", entries(named(5, 1, "c"), named(4, 1, "b"), named(3, 1, "a")), nil, entries(named(3, 17, "a"), named(4, 17, "b"), named(5, 17, "c"), term(6, 17))},
		{"the same ballot", entries(named(3, 9, "a")), entries(named(3, 9, "b")), entries(named(3, 17, "a"), term(4, 17))},
		{"a greater one behind", entries(named(3, 9, "a")), entries(named(3, 10, "b")), entries(named(3, 17, "b"), term(4, 17))},
		{"a smaller one behind", entries(named(3, 10, "a")), entries(named(3, 9, "b")), entries(named(3, 17, "a"), term(4, 17))},
		{"the same ballot in one promise", nil, entries(named(3, 9, "a"), named(3, 9, "b")), entries(named(3, 17, "a"), term(4, 17))},
		{"a greater one behind in one promise", entries(named(3, 9, "a"), named(3, 10, "b")), nil, entries(named(3, 17, "b"), term(4, 17))},
		{"a smaller one behind in one promise", entries(named(3, 10, "a"), named(3, 9, "b")), nil, entries(named(3, 17, "a"), term(4, 17))},
		{"three of a slot", entries(named(3, 9, "a"), named(3, 11, "b")), entries(named(3, 11, "c"), named(3, 10, "d")), entries(named(3, 17, "b"), term(4, 17))},
		{"each slot for itself", entries(named(3, 9, "a"), named(4, 12, "b")), entries(named(3, 10, "c"), named(4, 11, "d")), entries(named(3, 17, "c"), named(4, 17, "b"), term(5, 17))},
		{"no command by a greater ballot", entries(named(3, 9, "a")), entries(none(3, 10)), entries(none(3, 17), term(4, 17))},
		{"no command by the same ballot ahead", entries(none(3, 9)), entries(named(3, 9, "a")), entries(none(3, 17), term(4, 17))},
		{"no command by a smaller ballot", entries(none(3, 8)), entries(named(3, 9, "a")), entries(named(3, 17, "a"), term(4, 17))},
		{"no command alone", entries(none(4, 8)), nil, entries(none(3, 17), none(4, 17), term(5, 17))},
		{"a term of another", entries(term(3, 9)), nil, entries(api.Entry{Slot: 3, Ballot: 17, Cmd: api.Cmd{Kind: api.CmdTerm, N: 9}}, term(4, 17))},
		{"what is known to be chosen", entries(named(3, api.MaxBallot, "a")), entries(named(3, 16, "b")), entries(named(3, 17, "a"), term(4, 17))},
		{"ballots above its own", entries(named(3, 18, "a")), entries(named(3, 19, "b")), entries(named(3, 17, "b"), term(4, 17))},
		{"ballots that are none", entries(named(3, least, "a"), named(4, 0, "b")), entries(named(3, -1, "c"), named(4, greatest, "d")), entries(named(3, 17, "c"), named(4, 17, "d"), term(5, 17))},
		{"the least ballots", entries(named(3, least, "a")), entries(named(3, least, "b")), entries(named(3, 17, "a"), term(4, 17))},
	} {
		x := newBoth(t, 3, 17, 3)
		must(t, c.what, x.promise(2, c.a...), false)
		mustBe(t, c.what+": ahead of ready", x.p.Values(), nil)
		mustBe(t, c.what+": ahead of ready", x.p.Open(), nil)
		must(t, c.what, x.promise(0, c.b...), true)
		mustBe(t, c.what, x.p.Values(), c.want)
		mustBe(t, c.what, x.p.Open(), c.want)
	}
}

// Each field of a command is proposed as it was accepted.
func TestValuesHaveWholeCommands(t *testing.T) {
	for _, c := range []api.Cmd{
		{}, {Kind: api.CmdAdd, Session: 1, Seq: 2, Name: "w", N: -3}, {Kind: least, Session: least, Seq: least, N: least},
		{Kind: greatest, Session: greatest, Seq: greatest, N: greatest, Name: "\xff\x00"}, {Name: "only"},
	} {
		x := readyBoth(t, 1, 9, 1, api.Entry{Slot: 1, Ballot: 1, Cmd: c})
		mustBe(t, "Values", x.p.Values(), entries(api.Entry{Slot: 1, Ballot: 9, Cmd: c}, term(2, 9)))
		if e := x.propose(c); e != (api.Entry{Slot: 3, Ballot: 9, Cmd: c}) {
			t.Fatalf("%v", e)
		}
	}
}

func TestAnyBallot(t *testing.T) {
	for _, ballot := range beside(9, api.MaxBallot) {
		x := readyBoth(t, 3, ballot, 1, named(2, 1, "x"))
		mustBe(t, "Values", x.p.Values(), entries(none(1, ballot), named(2, ballot, "x"), term(3, ballot)))
		x.propose(command("a"))
	}
}

func TestFromAnySlot(t *testing.T) {
	for _, from := range []int{least + 1, least + 2, -3, -1, 0, 1, 2, api.MaxBallot, greatest - 9} {
		x := readyBoth(t, 1, 9, from)
		mustBe(t, "Values", x.p.Values(), entries(term(from, 9)))
		x = readyBoth(t, 1, 9, from, named(from-1, 8, "below"), named(from+1, 1, "x"), named(from, 1, "y"))
		mustBe(t, "Values", x.p.Values(), entries(named(from, 9, "y"), named(from+1, 9, "x"), term(from+2, 9)))
		if e := x.propose(command("a")); e != named(from+3, 9, "a") {
			t.Fatalf("%v", e)
		}
	}
	p := proposer.New(1, 9, least)
	must(t, "the least", p.Promise(0, entries(named(least, 1, "x"))), true)
	mustBe(t, "Values", p.Values(), entries(named(least, 9, "x"), term(least+1, 9)))
	p = proposer.New(1, 9, least)
	must(t, "the least", p.Promise(0, nil), true)
	mustBe(t, "Values", p.Values(), entries(term(least, 9)))
	must(t, "the least", p.Accepted(0, least), true)
}

// Values are those of the moment in which it became ready, whatever comes behind.
func TestValuesStay(t *testing.T) {
	x := readyBoth(t, 3, 9, 1, named(2, 1, "x"))
	want := entries(none(1, 9), named(2, 9, "x"), term(3, 9))
	for _, do := range []func(){
		func() { x.propose(command("a")) }, func() { x.accept(0, 1); x.accept(1, 1) }, func() { x.choose(1) }, func() { x.choose(2) },
		func() { x.propose(command("b")) }, func() { x.choose(4) }, func() { x.choose(3) }, func() { x.promise(2, named(3, 7, "late")) }, func() { x.choose(5) },
	} {
		do()
		mustBe(t, "Values", x.p.Values(), want)
	}
	mustBe(t, "Open", x.p.Open(), nil)
}

package proposer_test

import (
	"math/rand/v2"
	"slices"
	"strconv"
	"testing"

	"latchkey/acceptor"
	"latchkey/api"
	"latchkey/ballot"
	"latchkey/proposer"
)

// Runs of all calls one behind the other, and promise 16.3.

// someEntries gives a promise of few slots and ballots, so that what comes meets what is there.
func someEntries(r *rand.Rand, slots int) []api.Entry {
	var l []api.Entry
	for range r.IntN(5) {
		e := none(r.IntN(slots), 1+r.IntN(4))
		if r.IntN(4) > 0 {
			e = named(e.Slot, e.Ballot, strconv.Itoa(r.IntN(1000)))
		}
		l = append(l, e)
	}
	return l
}

// do does one of the calls that change something, of servers that may be and some that may not, and tells whether it counted.
func (x both) do(r *rand.Rand) bool {
	x.t.Helper()
	server := r.IntN(x.q.n+2) - 1
	switch r.IntN(8) {
	case 0, 1, 2:
		if !x.q.ready {
			return x.promise(server, someEntries(r, 9)...)
		}
		return x.accept(server, r.IntN(20))
	case 3, 4:
		return x.accept(server, r.IntN(20))
	case 5:
		return x.propose(command(strconv.Itoa(r.IntN(1000)))) != api.Entry{}
	case 6:
		x.choose(r.IntN(20))
		return true
	default:
		return x.promise(server, someEntries(r, 9)...)
	}
}

func TestRuns(t *testing.T) {
	ready := 0
	for seed := range uint64(3000) {
		r := rand.New(rand.NewPCG(162, seed))
		x := newBoth(t, 1+r.IntN(6), 1+r.IntN(40), r.IntN(8)-1)
		for range 60 {
			x.do(r)
		}
		if x.p.Ready() {
			ready++
		}
	}
	if ready < 2500 {
		t.Fatalf("%d of 3000 were ready", ready)
	}
}

// Rule R5: the same calls are answered the same.
func TestTheSameAgain(t *testing.T) {
	told := func(seed uint64) (counted []bool, open, values []api.Entry) {
		r := rand.New(rand.NewPCG(163, seed))
		x := newBoth(t, 1+r.IntN(5), 9, r.IntN(4))
		for range 40 {
			counted = append(counted, x.do(r))
		}
		return counted, x.p.Open(), x.p.Values()
	}
	for seed := range uint64(300) {
		counted, open, values := told(seed)
		again, open2, values2 := told(seed)
		if !slices.Equal(counted, again) || !slices.Equal(open, open2) || !slices.Equal(values, values2) {
			t.Fatalf("%v, then %v", open, open2)
		}
	}
}

// orders goes over all ways to name k of n servers one behind the other.
func orders(n, k int, each func(l []int)) {
	var more func(l []int)
	more = func(l []int) {
		if len(l) == k {
			each(l)
			return
		}
		for server := range n {
			if !slices.Contains(l, server) {
				more(append(slices.Clone(l), server))
			}
		}
	}
	more(nil)
}

// Whichever servers promise, in whichever order: of each slot the greatest ballot that one of them has is the one whose command is proposed.
func TestTheGreatestBallotOfEachMajority(t *testing.T) {
	const slots = 5
	for seed := range uint64(60) {
		r := rand.New(rand.NewPCG(164, seed))
		for n := 1; n <= 5; n++ {
			has := make([][]api.Entry, n) // of each server, at most one entry a slot
			for server := range has {
				for slot := 1; slot <= slots; slot++ {
					if b := r.IntN(6); b > 0 {
						has[server] = append(has[server], named(slot, b, strconv.Itoa(b))) // one command a ballot
					}
				}
			}
			orders(n, n/2+1, func(l []int) { mustProposeTheGreatest(t, n, has, l) })
		}
	}
}

func mustProposeTheGreatest(t *testing.T, n int, has [][]api.Entry, servers []int) {
	t.Helper()
	p := proposer.New(n, 17, 1)
	best := map[int]int{}
	for i, server := range servers {
		must(t, "Promise", p.Promise(server, has[server]), i == len(servers)-1)
		for _, e := range has[server] {
			best[e.Slot] = max(best[e.Slot], e.Ballot)
		}
	}
	values := p.Values()
	for i, e := range values[:len(values)-1] {
		want := none(i+1, 17)
		if b := best[i+1]; b > 0 {
			want = named(i+1, 17, strconv.Itoa(b))
		}
		if e != want {
			t.Fatalf("servers %v: %v, not %v", servers, e, want)
		}
		delete(best, i+1)
	}
	if len(best) > 0 || values[len(values)-1] != term(len(values), 17) {
		t.Fatalf("servers %v: %v is missing in %v", servers, best, values)
	}
}

// group is some acceptors, and what was chosen by any proposer.
type group struct {
	t      *testing.T
	r      *rand.Rand
	all    []*acceptor.Acceptor
	used   map[int]bool // ballots
	chosen map[int]api.Cmd
}

// stand lets a server ask some of the acceptors for promises, and gives a proposer that may be ready by them.
func (g *group) stand(id int) (*proposer.Proposer, int) {
	top := 0
	for _, a := range g.all {
		top = max(top, a.Promised())
	}
	b := ballot.Next(top-g.r.IntN(10), id)
	for g.used[b] { // no server stands twice by one ballot
		b = ballot.Next(b, id)
	}
	g.used[b] = true
	p := proposer.New(len(g.all), b, 1)
	for _, server := range g.r.Perm(len(g.all)) {
		if g.r.IntN(6) == 0 {
			continue // what was asked is lost
		}
		if _, ok := g.all[server].Prepare(b); ok {
			p.Promise(server, g.all[server].From(1))
		}
	}
	return p, b
}

// send lets some acceptors hear of an entry; where a majority accepted it, it is chosen, and must be what was chosen ahead.
func (g *group) send(p *proposer.Proposer, b int, e api.Entry) {
	for _, server := range g.r.Perm(len(g.all)) {
		if g.r.IntN(3) == 0 {
			continue
		}
		if _, ok := g.all[server].Accept(b, e); !ok || !p.Accepted(server, e.Slot) {
			continue
		}
		if was, there := g.chosen[e.Slot]; there && was != e.Cmd {
			g.t.Fatalf("slot %d: %v is chosen behind %v", e.Slot, e.Cmd, was)
		}
		g.chosen[e.Slot] = e.Cmd
		if g.r.IntN(2) == 0 {
			p.Chosen(e.Slot)
		}
	}
}

// Proposers that stand one behind the other and beside one another, with much that is lost: what is chosen at a slot is never another thing later.
func TestWhatIsChosenStays(t *testing.T) {
	type leader struct {
		p *proposer.Proposer
		b int
	}
	count := 0
	for seed := range uint64(1500) {
		r := rand.New(rand.NewPCG(165, seed))
		g := &group{t, r, nil, map[int]bool{}, map[int]api.Cmd{}}
		for range 1 + r.IntN(5) {
			g.all = append(g.all, acceptor.New(api.Durable{}))
		}
		var leaders []leader
		for step := range 25 {
			if p, b := g.stand(r.IntN(len(g.all))); p.Ready() {
				leaders = append(leaders, leader{p, b})
			}
			for range r.IntN(6) {
				if len(leaders) == 0 {
					break
				}
				l := leaders[r.IntN(len(leaders))] // a late one may still send
				if r.IntN(3) == 0 {
					l.p.Propose(command(strconv.Itoa(step)))
				}
				for _, e := range l.p.Open() {
					if r.IntN(2) == 0 {
						g.send(l.p, l.b, e)
					}
				}
			}
		}
		count += len(g.chosen)
	}
	if count < 5000 {
		t.Fatalf("%d slots were chosen", count)
	}
}

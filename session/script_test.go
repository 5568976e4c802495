package session_test

import (
	"math/rand/v2"
	"slices"
	"testing"

	"latchkey/api"
	"latchkey/session"
)

// Runs of all calls one behind the other, and promise 18.4.

// pick gives one of l.
func pick(r *rand.Rand, l ...int) int { return l[r.IntN(len(l))] }

// do does one of the calls, on what is there or beside it.
func (x both) do(r *rand.Rand) {
	x.t.Helper()
	id := r.IntN(len(x.p.rows)+3) - 1
	last := 0
	if y := x.p.at(id); y != nil {
		last = y.seq
	}
	seq := pick(r, last-1, last, last+1, last+1, last+1, last+1+r.IntN(100), r.IntN(9)-2)
	switch r.IntN(10) {
	case 0, 1:
		x.open(r.IntN(10)-1, pick(r, r.IntN(40), r.IntN(40), pick(r, lives...)))
	case 2:
		x.close(id)
	case 3, 4, 5:
		x.begin(id, seq)
	case 6:
		x.end(api.Reply{Session: id, Seq: seq, Err: api.Errno(r.IntN(256)), Token: r.Uint64(), N: r.IntN(2*great) - great})
	default:
		x.end(api.Reply{Session: id, Seq: last, Err: api.Errno(r.IntN(256)), Token: r.Uint64(), N: r.IntN(2*great) - great})
	}
}

func TestRuns(t *testing.T) {
	answers, opened, closed := 0, 0, 0
	for seed := range uint64(1500) {
		r := rand.New(rand.NewPCG(183, seed))
		x := newBoth(t)
		for range 120 {
			x.do(r)
			x.mustKnow("a run")
		}
		for _, y := range x.p.rows {
			answers, opened, closed = answers+flag(y.answered), opened+flag(y.open), closed+flag(!y.open)
		}
	}
	if answers < 3000 || opened < 3000 || closed < 3000 {
		t.Fatalf("%d answered, %d open, %d closed", answers, opened, closed)
	}
}

// T7: what was decoded, at each moment of a run, goes on as what was encoded does.
func TestDecodedGoesOn(t *testing.T) {
	for seed := range uint64(400) {
		r := rand.New(rand.NewPCG(184, seed))
		x := newBoth(t)
		for range r.IntN(120) {
			x.do(r)
		}
		p := &plain{slices.Clone(x.p.rows)}
		y := both{t, mustDecode(t, "decoded", x.s.Encode(), x.p), p}
		was := *r
		for range 60 {
			x.do(r)
		}
		for range 60 { // the same calls, each on a text read anew
			y.do(&was)
			y.s = mustDecode(t, "decoded again", y.s.Encode(), y.p)
		}
		if x.s.Encode() != textOf(x.p) || y.s.Encode() != textOf(y.p) {
			t.Fatal("the end of a run")
		}
	}
}

// Rule R5: the same calls are answered the same, and leave the same bytes.
func TestTheSameAgain(t *testing.T) {
	run := func(seed uint64) ([]int, string) {
		r := rand.New(rand.NewPCG(185, seed))
		x := withOpen(t, 100)
		for range 100 {
			x.do(r)
		}
		return x.s.All(), x.s.Encode()
	}
	for seed := range uint64(100) {
		a, s := run(seed)
		b, u := run(seed)
		if !slices.Equal(a, b) || s != u {
			t.Fatalf("%v %v", a, b)
		}
	}
}

// call is one of a few, for scripts of all kinds.
type call struct{ kind, a, b int }

var calls = []call{
	{0, 0, 1}, {0, 0, 2}, {0, 1, 1}, // Open
	{1, 1, 0}, {1, 2, 0}, // Close
	{2, 1, 0}, {2, 1, 1}, {2, 1, 2}, {2, 2, 1}, // Begin
	{3, 1, 0}, {3, 1, 1}, {3, 1, 2}, {3, 2, 1}, // End
}

func (x both) call(c call, token uint64) {
	x.t.Helper()
	switch c.kind {
	case 0:
		x.open(c.a, c.b)
	case 1:
		x.close(c.a)
	case 2:
		x.begin(c.a, c.b)
	default:
		x.end(api.Reply{Session: c.a, Seq: c.b, Token: token})
	}
}

// All scripts of five of those calls, on two sessions.
func TestAllShortScripts(t *testing.T) {
	var l [5]int
	for script := range 13 * 13 * 13 * 13 * 13 {
		for i := range l {
			l[i] = script % len(calls)
			script /= len(calls)
		}
		x := both{t, session.New(), &plain{}}
		x.open(0, 1)
		for i, c := range l {
			x.call(calls[c], uint64(i+1))
		}
		x.mustKnow("a script")
	}
}

// Promise 18.4: of each session each Seq is begun at most once, and answered at most once, also where what was encoded is taken up again; and what it was answered with is what is told of it, until the next is begun.
func TestNoCommandIsAnsweredTwice(t *testing.T) {
	total := 0
	for seed := range uint64(300) {
		r := rand.New(rand.NewPCG(186, seed))
		s := session.New()
		type command struct{ id, seq int }
		began, ended := map[command]int{}, map[command]int{}
		answers := map[command]api.Reply{}
		for i := range 500 {
			id, seq := r.IntN(5), r.IntN(12)
			c := command{id, seq}
			switch r.IntN(12) {
			case 0:
				s.Open(r.IntN(8), 1+r.IntN(20))
			case 1:
				s.Close(id)
			case 2:
				was, err := session.Decode(s.Encode())
				if err != api.OK {
					t.Fatal(err)
				}
				s = was
			case 3, 4, 5, 6, 7:
				a := api.Reply{Session: id, Seq: seq, Token: uint64(i)}
				if s.End(a) {
					ended[c]++
					answers[c] = a
				}
			default:
				got, how := s.Begin(id, seq)
				switch {
				case how == 0:
					began[c]++
				case how == 1 && (got != answers[c] || ended[c] != 1):
					t.Fatalf("Begin(%d, %d): %v, answered with %v", id, seq, got, answers[c])
				}
			}
			if began[c] > 1 || ended[c] > began[c] {
				t.Fatalf("%v: begun %d times, answered %d times", c, began[c], ended[c])
			}
			total += ended[c]
		}
	}
	if total < 3000 {
		t.Fatalf("%d", total)
	}
}

// Many sessions: what is asked behind them takes no longer for those that are closed.
func TestManySessions(t *testing.T) {
	const count = 100000
	s, p := session.New(), &plain{}
	for i := range count {
		id, fresh, err := s.Open(i%8, i+1)
		if id != i+1 || !fresh || err != api.OK {
			t.Fatalf("Open: %d, %t, %d", id, fresh, err)
		}
		s.Begin(id, i+1)
		s.End(api.Reply{Session: id, Seq: i + 1, N: i})
		p.rows = append(p.rows, row{client: i % 8, life: i + 1, open: i+200 >= count, seq: i + 1, answered: true, answer: api.Reply{Session: id, Seq: i + 1, N: i}})
		if id > 200 && !s.Close(id-200) {
			t.Fatalf("Close(%d)", id-200)
		}
		all := s.All()
		if first := max(id-199, 1); len(all) != min(id, 200) || all[0] != first || all[len(all)-1] != id {
			t.Fatalf("All: %v", all)
		}
	}
	text := textOf(p)
	x, err := session.Decode(s.Encode())
	if err != api.OK || s.Encode() != text || x.Encode() != text || !slices.Equal(x.All(), p.opened()) {
		t.Fatalf("Encode, Decode: %d", err)
	}
	if r, how := x.Begin(7, 7); r != p.rows[6].answer || how != 1 {
		t.Fatal(r, how)
	}
}

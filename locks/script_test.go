package locks_test

import (
	"math/rand/v2"
	"slices"
	"testing"

	"latchkey/api"
	"latchkey/locks"
)

// Runs of all calls one behind the other, and promise 19.5.

func pick[T any](r *rand.Rand, l ...T) T { return l[r.IntN(len(l))] }

// do does one of the calls on a few locks by a few sessions, most of them so that they may be.
func (x both) do(r *rand.Rand) {
	x.t.Helper()
	c := api.Cmd{Session: 1 + r.IntN(8), Seq: 1 + r.IntN(1000), Name: pick(r, "a", "a", "a", "b", "c", "dd")}
	switch r.IntN(16) {
	case 0:
		x.gone(c.Session)
	case 1, 2, 3, 4, 5:
		c.Kind = rlock
		x.ask(c)
	case 6, 7, 8, 9:
		c.Kind = lock
		x.ask(c)
	case 10:
		c.Kind = pick(r, unlock, runlock)
		x.release(c)
	default:
		holders, writer := x.p.holders(c.Name)
		if len(holders) == 0 {
			return
		}
		c.Session, c.Kind = pick(r, holders...), runlock
		if writer {
			c.Kind = unlock
		}
		x.release(c)
	}
}

func TestRuns(t *testing.T) {
	waiting, writers, readers := 0, 0, 0
	for seed := range uint64(800) {
		r := rand.New(rand.NewPCG(193, seed))
		x := newBoth(t)
		for i := range 150 {
			if seed%5 == 0 && i == 60 {
				x.setToken(noMore - seed%7)
			}
			x.do(r)
			x.mustKnow("a run")
			for _, y := range x.p.rows {
				waiting += len(y.queue)
				writers += flag(y.writer)
				readers += flag(len(y.holders) > 1)
			}
		}
	}
	if waiting < 50000 || writers < 50000 || readers < 50000 {
		t.Fatalf("%d wait, %d writers, %d times several readers", waiting, writers, readers)
	}
}

// T7: what was decoded, at each moment of a run, goes on as what was encoded does.
func TestDecodedGoesOn(t *testing.T) {
	for seed := range uint64(400) {
		r := rand.New(rand.NewPCG(194, seed))
		x := newBoth(t)
		for range r.IntN(120) {
			x.do(r)
		}
		y := both{t, mustDecode(t, "decoded", x.l.Encode(), x.p), x.p.copy()}
		was := *rand.New(rand.NewPCG(195, seed))
		again := rand.New(rand.NewPCG(195, seed))
		for range 60 {
			x.do(&was)
		}
		for range 60 { // the same calls, each on a text read anew
			y.do(again)
			y.l = mustDecode(t, "decoded again", y.l.Encode(), y.p)
		}
		if x.l.Encode() != textOf(x.p) || y.l.Encode() != textOf(x.p) {
			t.Fatal("the end of a run")
		}
	}
}

// Rule R5: the same calls are answered the same, and leave the same bytes, also over many locks.
func TestTheSameAgain(t *testing.T) {
	run := func() ([]api.Reply, string) {
		x := newBoth(t)
		for i := range 200 {
			x.ask(cmd(lock, 1, names(i)))
			x.ask(cmd(lock, 2+i%5, names(i)))
			x.ask(cmd(rlock, 10+i%7, names(i)))
		}
		return append(x.gone(1), x.gone(2)...), x.l.Encode()
	}
	a, s := run()
	for range 20 {
		if b, u := run(); !slices.Equal(a, b) || s != u {
			t.Fatalf("%v %v", a, b)
		}
	}
}

// All scripts of five of these calls on one lock, by three sessions: each asks, in one way or the other, lets go of what it holds, or goes.
func TestAllShortScripts(t *testing.T) {
	calls := []api.Cmd{}
	for session := 1; session <= 3; session++ {
		for _, kind := range []int{lock, rlock, unlock, 0} {
			calls = append(calls, cmd(kind, session, "a"))
		}
	}
	var l [5]int
	for script := range 12 * 12 * 12 * 12 * 12 {
		for i := range l {
			l[i] = script % len(calls)
			script /= len(calls)
		}
		x := both{t, locks.New(), &plain{}}
		for _, i := range l {
			c := calls[i]
			switch c.Kind {
			case unlock:
				if _, writer := x.p.holders("a"); !writer {
					c.Kind = runlock
				}
				x.release(c)
			case 0:
				x.gone(c.Session)
			default:
				x.ask(c)
			}
		}
		x.mustKnow("a script")
	}
}

// watch looks at the three words of 19.5 along a run, by what is told alone. Of each command the Seq tells which of its locks is meant.
type watch struct {
	t       *testing.T
	l       *locks.Locks
	turn    int
	asked   map[api.Cmd]int // when it was asked for, by Kind, Session and Name, until it is granted
	held    map[string]map[int]bool
	last    uint64 // the token of the last writer
	granted int
}

var places = []string{"a", "b"}

func newWatch(t *testing.T) *watch {
	return &watch{t: t, l: locks.New(), asked: map[api.Cmd]int{}, held: map[string]map[int]bool{"a": {}, "b": {}}}
}

func wish(kind, session int, name string) api.Cmd {
	return api.Cmd{Kind: kind, Session: session, Name: name}
}

// grants looks at grants to sessions that asked.
func (w *watch) grants(replies []api.Reply) {
	w.t.Helper()
	for _, r := range replies {
		name := places[r.Seq-1]
		if _, writes := w.asked[wish(lock, r.Session, name)]; writes {
			w.writer(r, name)
		} else {
			w.reader(r, name)
		}
		w.granted++
	}
}

func (w *watch) writer(r api.Reply, name string) {
	w.t.Helper()
	if len(w.held[name]) > 0 {
		w.t.Fatalf("%s: %d is granted it for writing beside %v", name, r.Session, w.held[name])
	}
	if r.Token <= w.last {
		w.t.Fatalf("%s: token %d behind %d", name, r.Token, w.last)
	}
	w.last = r.Token
	w.grant(r, wish(lock, r.Session, name))
}

func (w *watch) reader(r api.Reply, name string) {
	w.t.Helper()
	for session, writer := range w.held[name] {
		if writer {
			w.t.Fatalf("%s: %d is granted it for reading beside writer %d", name, r.Session, session)
		}
	}
	w.grant(r, wish(rlock, r.Session, name))
}

// grant looks whether no writer still waits that asked ahead of c.
func (w *watch) grant(r api.Reply, c api.Cmd) {
	w.t.Helper()
	since, found := w.asked[c]
	if !found || r.Err != api.OK {
		w.t.Fatalf("%v to %v", r, c)
	}
	for other, when := range w.asked {
		if other.Kind == lock && other.Name == c.Name && when < since {
			w.t.Fatalf("%v is granted, which asked behind %v", c, other)
		}
	}
	delete(w.asked, c)
	w.held[c.Name][c.Session] = c.Kind == lock
}

// forget takes a session out of what is known of it.
func (w *watch) forget(session int, name string) {
	delete(w.held[name], session)
	delete(w.asked, wish(lock, session, name))
	delete(w.asked, wish(rlock, session, name))
}

// mustBe looks whether what is told of the holders is what was granted.
func (w *watch) mustBe(name string) {
	w.t.Helper()
	got, writer := w.l.Holders(name)
	if writer && len(got) != 1 || len(got) != len(w.held[name]) {
		w.t.Fatalf("%s: Holders %v, %t", name, got, writer)
	}
	for _, session := range got {
		if is, held := w.held[name][session]; !held || is != writer {
			w.t.Fatalf("%s: Holders %v, %t, not %v", name, got, writer, w.held[name])
		}
	}
}

// ask asks for a lock in one of the ways, if the session neither holds it nor waits for it.
func (w *watch) ask(c api.Cmd) {
	w.t.Helper()
	_, held := w.held[c.Name][c.Session]
	_, writes := w.asked[wish(lock, c.Session, c.Name)]
	_, reads := w.asked[wish(rlock, c.Session, c.Name)]
	if held || writes || reads {
		return
	}
	w.asked[wish(c.Kind, c.Session, c.Name)] = w.turn
	got, waits := w.l.Ask(c)
	if waits == (len(got) > 0) {
		w.t.Fatalf("Ask: %v, %t", got, waits)
	}
	w.grants(got)
}

// release lets go of a lock, if the session holds it.
func (w *watch) release(c api.Cmd) {
	w.t.Helper()
	writer, held := w.held[c.Name][c.Session]
	if !held {
		return
	}
	c.Kind = runlock
	if writer {
		c.Kind = unlock
	}
	got := w.l.Release(c)
	if len(got) == 0 || got[0] != (api.Reply{Session: c.Session, Seq: c.Seq}) {
		w.t.Fatalf("Release: %v", got)
	}
	w.forget(c.Session, c.Name)
	w.grants(got[1:])
}

func (w *watch) gone(session int) {
	w.t.Helper()
	for _, name := range places {
		w.forget(session, name)
	}
	w.grants(w.l.Gone(session))
}

func (w *watch) readAnew() {
	w.t.Helper()
	l, err := locks.Decode(w.l.Encode())
	if err != api.OK {
		w.t.Fatal(err)
	}
	w.l = l
}

func TestThreeWords(t *testing.T) {
	granted := 0
	for seed := range uint64(400) {
		r := rand.New(rand.NewPCG(196, seed))
		w := newWatch(t)
		for w.turn = range 300 {
			i := r.IntN(len(places))
			c := api.Cmd{Kind: pick(r, lock, rlock), Session: 1 + r.IntN(8), Seq: i + 1, Name: places[i]}
			switch r.IntN(14) {
			case 0:
				w.gone(c.Session)
			case 1:
				w.readAnew()
			case 2, 3, 4, 5, 6, 7:
				w.release(c)
			default:
				w.ask(c)
			}
			w.mustBe("a")
			w.mustBe("b")
		}
		granted += w.granted
	}
	if granted < 10000 {
		t.Fatal(granted)
	}
}

// Many that wait for one lock: each asks, and each goes, soon, from whatever place.
func TestManyThatWait(t *testing.T) {
	const count = 200000
	l := locks.New()
	for s := 1; s <= count; s++ {
		kind := lock
		if s%3 == 0 {
			kind = rlock
		}
		if _, waits := l.Ask(cmd(kind, s, "a")); waits == (s == 1) {
			t.Fatalf("Ask of %d", s)
		}
	}
	for i := range count / 2 {
		s := 2 + (i*7919*2)%count // each even one, as 7919 is a prime
		if got := l.Gone(s); len(got) != 0 {
			t.Fatalf("Gone(%d): %v", s, got)
		}
	}
	x, err := locks.Decode(l.Encode())
	if err != api.OK || x.Encode() != l.Encode() {
		t.Fatal(err)
	}
	token := uint64(1)
	for s := 1; s < count; s += 2 {
		want := []api.Reply{ok(s)}
		kind := runlock
		if s%3 != 0 {
			kind = unlock
		}
		if s+2 < count && (s+2)%3 != 0 {
			token++
		}
		if s+2 < count {
			want = append(want, grant(s+2, token))
		}
		if got := x.Release(cmd(kind, s, "a")); !slices.Equal(got, want) {
			t.Fatalf("Release of %d: %v, not %v", s, got, want)
		}
	}
	if x.Encode() != textOf(&plain{token: token}) {
		t.Fatalf("%.80q", x.Encode())
	}
}

package locks_test

import (
	"math"
	"slices"
	"strconv"
	"strings"
	"testing"

	"latchkey/api"
	"latchkey/locks"
)

const (
	least    = math.MinInt
	greatest = math.MaxInt
	great    = 1 << 30 // the greatest session, the greatest Seq
	most     = 256     // locks that are there
	noMore   = math.MaxUint64
)

// asked is what a session asked for.
type asked struct {
	session, seq int
	reader       bool
}

// row is a lock of the plain model.
type row struct {
	name    string
	holders []int // in the order in which they were granted it
	writer  bool
	queue   []asked
}

// plain is the chapter's words over a row of locks, which is looked through for each call.
type plain struct {
	token uint64
	rows  []row
}

func (p *plain) copy() *plain {
	l := slices.Clone(p.rows)
	for i := range l {
		l[i].holders, l[i].queue = slices.Clone(l[i].holders), slices.Clone(l[i].queue)
	}
	return &plain{p.token, l}
}

func (p *plain) at(name string) *row {
	for i := range p.rows {
		if p.rows[i].name == name {
			return &p.rows[i]
		}
	}
	return nil
}

func (x *row) place(session int) int {
	return slices.IndexFunc(x.queue, func(a asked) bool { return a.session == session })
}

// granted gives the answer to a, who may have the lock as far as others go, and lets it hold it unless tokens are used up.
func (p *plain) granted(x *row, a asked) api.Reply {
	if a.reader {
		x.holders, x.writer = append(x.holders, a.session), false
		return api.Reply{Session: a.session, Seq: a.seq, Token: p.token}
	}
	if p.token == noMore {
		return api.Reply{Session: a.session, Seq: a.seq, Err: api.ErrExhausted}
	}
	p.token++
	x.holders, x.writer = []int{a.session}, true
	return api.Reply{Session: a.session, Seq: a.seq, Token: p.token}
}

func (p *plain) ask(c api.Cmd) ([]api.Reply, bool) {
	if c.Kind != api.CmdLock && c.Kind != api.CmdRLock {
		return nil, false
	}
	a := asked{c.Session, c.Seq, c.Kind == api.CmdRLock}
	x := p.at(c.Name)
	if x != nil && (slices.Contains(x.holders, a.session) || x.place(a.session) >= 0) {
		return []api.Reply{{Session: a.session, Seq: a.seq, Err: api.ErrHeld}}, false
	}
	if x == nil && len(p.rows) >= most {
		return []api.Reply{{Session: a.session, Seq: a.seq, Err: api.ErrFull}}, false
	}
	if x == nil {
		p.rows = append(p.rows, row{name: c.Name})
		r := p.granted(&p.rows[len(p.rows)-1], a)
		p.clear()
		return []api.Reply{r}, false
	}
	if a.reader && len(x.queue) == 0 && !x.writer {
		return []api.Reply{p.granted(x, a)}, false
	}
	x.queue = append(x.queue, a)
	return nil, true
}

// clear lets go of the locks that nobody holds and nobody waits for.
func (p *plain) clear() {
	p.rows = slices.DeleteFunc(p.rows, func(x row) bool { return len(x.holders)+len(x.queue) == 0 })
}

// follow gives the grants from the queue's front on.
func (p *plain) follow(x *row) []api.Reply {
	var l []api.Reply
	for len(x.queue) > 0 {
		a := x.queue[0]
		if a.reader && x.writer && len(x.holders) > 0 || !a.reader && len(x.holders) > 0 {
			break
		}
		x.queue = slices.Clone(x.queue[1:])
		l = append(l, p.granted(x, a))
	}
	return l
}

func (x *row) without(session int) {
	if i := slices.Index(x.holders, session); i >= 0 {
		x.holders, x.writer = slices.Delete(x.holders, i, i+1), false
	}
	if i := x.place(session); i >= 0 {
		x.queue = slices.Delete(x.queue, i, i+1)
	}
}

func (p *plain) release(c api.Cmd) []api.Reply {
	if c.Kind != api.CmdUnlock && c.Kind != api.CmdRUnlock {
		return nil
	}
	x := p.at(c.Name)
	if x == nil || !slices.Contains(x.holders, c.Session) || x.writer != (c.Kind == api.CmdUnlock) {
		return []api.Reply{{Session: c.Session, Seq: c.Seq, Err: api.ErrNotHeld}}
	}
	x.without(c.Session)
	l := append([]api.Reply{{Session: c.Session, Seq: c.Seq}}, p.follow(x)...)
	p.clear()
	return l
}

func (p *plain) names() []string {
	var l []string
	for _, x := range p.rows {
		l = append(l, x.name)
	}
	slices.Sort(l)
	return l
}

func (p *plain) gone(session int) []api.Reply {
	var l []api.Reply
	for _, name := range p.names() {
		x := p.at(name)
		if slices.Contains(x.holders, session) || x.place(session) >= 0 {
			x.without(session)
			l = append(l, p.follow(x)...)
		}
	}
	p.clear()
	return l
}

func (p *plain) holders(name string) ([]int, bool) {
	x := p.at(name)
	if x == nil {
		return nil, false
	}
	return slices.Sorted(slices.Values(x.holders)), x.writer
}

func (p *plain) queue(name string) []api.Wait {
	x := p.at(name)
	if x == nil {
		return nil
	}
	var l []api.Wait
	for _, a := range x.queue {
		l = append(l, api.Wait{Task: a.session, Reader: a.reader, Blocked: true})
	}
	return l
}

// mustKnow looks whether all that can be asked of l is answered as by p.
func mustKnow(t *testing.T, what string, l *locks.Locks, p *plain) {
	t.Helper()
	if got := l.Token(); got != p.token {
		t.Fatalf("%s: Token %d, not %d", what, got, p.token)
	}
	for _, name := range append(p.names(), "", "none") {
		got, gotWriter := l.Holders(name)
		if want, wantWriter := p.holders(name); !slices.Equal(got, want) || gotWriter != wantWriter {
			t.Fatalf("%s: Holders(%q): %v, %t, not %v, %t", what, name, got, gotWriter, want, wantWriter)
		}
		if got, want := l.Queue(name), p.queue(name); !slices.Equal(got, want) {
			t.Fatalf("%s: Queue(%q): %v, not %v", what, name, got, want)
		}
	}
	if got, want := l.Encode(), textOf(p); got != want {
		t.Fatalf("%s: Encode %.300q, not %.300q", what, got, want)
	}
}

// both is locks and the plain model of them, to which the same is done.
type both struct {
	t *testing.T
	l *locks.Locks
	p *plain
}

func newBoth(t *testing.T) both {
	t.Helper()
	x := both{t, locks.New(), &plain{}}
	mustKnow(t, "New", x.l, x.p)
	return x
}

func (x both) mustKnow(what string) {
	x.t.Helper()
	mustKnow(x.t, what, x.l, x.p)
}

func (x both) ask(c api.Cmd) ([]api.Reply, bool) {
	x.t.Helper()
	got, waits := x.l.Ask(c)
	if want, wantWaits := x.p.ask(c); !slices.Equal(got, want) || waits != wantWaits {
		x.t.Fatalf("Ask(%v): %v, %t, not %v, %t", c, got, waits, want, wantWaits)
	}
	return got, waits
}

func (x both) release(c api.Cmd) []api.Reply {
	x.t.Helper()
	got := x.l.Release(c)
	if want := x.p.release(c); !slices.Equal(got, want) {
		x.t.Fatalf("Release(%v): %v, not %v", c, got, want)
	}
	return got
}

func (x both) gone(session int) []api.Reply {
	x.t.Helper()
	got := x.l.Gone(session)
	if want := x.p.gone(session); !slices.Equal(got, want) {
		x.t.Fatalf("Gone(%d): %v, not %v", session, got, want)
	}
	return got
}

func (x both) setToken(n uint64) {
	x.t.Helper()
	x.l.SetToken(n)
	x.p.token = n
	x.mustKnow("SetToken")
}

// The calls again, with what must be told by a value of its own. A session's Seq is ten times its number, where none is named.

func cmd(kind, session int, name string) api.Cmd {
	return api.Cmd{Kind: kind, Session: session, Seq: 10 * session, Name: name}
}

func grant(session int, token uint64) api.Reply {
	return api.Reply{Session: session, Seq: 10 * session, Token: token}
}

func refusal(session int, err api.Errno) api.Reply {
	return api.Reply{Session: session, Seq: 10 * session, Err: err}
}

func ok(session int) api.Reply { return refusal(session, api.OK) }

func (x both) mustAsk(c api.Cmd, want api.Reply) {
	x.t.Helper()
	if got, waits := x.ask(c); waits || !slices.Equal(got, []api.Reply{want}) {
		x.t.Fatalf("Ask(%v): %v, %t, not %v", c, got, waits, want)
	}
	x.mustKnow("Ask")
}

func (x both) mustWait(c api.Cmd) {
	x.t.Helper()
	if got, waits := x.ask(c); !waits || len(got) != 0 {
		x.t.Fatalf("Ask(%v): %v, %t", c, got, waits)
	}
	x.mustKnow("Ask")
}

func (x both) mustRelease(c api.Cmd, want ...api.Reply) {
	x.t.Helper()
	if got := x.release(c); !slices.Equal(got, want) {
		x.t.Fatalf("Release(%v): %v, not %v", c, got, want)
	}
	x.mustKnow("Release")
}

func (x both) mustGo(session int, want ...api.Reply) {
	x.t.Helper()
	if got := x.gone(session); !slices.Equal(got, want) {
		x.t.Fatalf("Gone(%d): %v, not %v", session, got, want)
	}
	x.mustKnow("Gone")
}

func (x both) mustHold(name string, writer bool, want ...int) {
	x.t.Helper()
	if got, is := x.l.Holders(name); !slices.Equal(got, want) || is != writer {
		x.t.Fatalf("Holders(%q): %v, %t, not %v, %t", name, got, is, want, writer)
	}
}

// mustQueue names readers by numbers below 0.
func (x both) mustQueue(name string, sessions ...int) {
	x.t.Helper()
	var want []api.Wait
	for _, s := range sessions {
		want = append(want, api.Wait{Task: max(s, -s), Reader: s < 0, Blocked: true})
	}
	if got := x.l.Queue(name); !slices.Equal(got, want) {
		x.t.Fatalf("Queue(%q): %v, not %v", name, got, want)
	}
}

func (x both) mustToken(want uint64) {
	x.t.Helper()
	if got := x.l.Token(); got != want {
		x.t.Fatalf("Token: %d, not %d", got, want)
	}
}

// Shorter names of the kinds.
const (
	lock    = api.CmdLock
	unlock  = api.CmdUnlock
	rlock   = api.CmdRLock
	runlock = api.CmdRUnlock
)

// line makes sessions ask for a, one behind the other, those below 0 for reading: session 1 asked first.
func (x both) line(sessions ...int) {
	x.t.Helper()
	for _, s := range sessions {
		if s < 0 {
			x.ask(cmd(rlock, -s, "a"))
		} else {
			x.ask(cmd(lock, s, "a"))
		}
	}
	x.mustKnow("asked in a row")
}

func TestExamples(t *testing.T) {
	x := newBoth(t)
	x.mustAsk(cmd(lock, 1, "a"), grant(1, 1))
	x.mustWait(cmd(lock, 2, "a"))
	x.mustWait(cmd(rlock, 3, "a"))
	x.mustHold("a", true, 1)
	x.mustQueue("a", 2, -3)
	x.mustRelease(cmd(unlock, 1, "a"), ok(1), grant(2, 2))
	x.mustHold("a", true, 2)
	x.mustQueue("a", -3)
	x.mustRelease(cmd(unlock, 2, "a"), ok(2), grant(3, 2))
	x.mustHold("a", false, 3)
	x.mustQueue("a")
	x.mustRelease(cmd(runlock, 3, "a"), ok(3))
	x.mustHold("a", false)
	x.mustToken(2)
}

// Promise 19.1.

func TestNew(t *testing.T) {
	x := newBoth(t)
	x.mustToken(0)
	for _, name := range []string{"", "a", "b", strings.Repeat("x", 64), strings.Repeat("x", 100000)} {
		x.mustHold(name, false)
		x.mustQueue(name)
	}
	x.mustGo(1)
}

// Commands of another kind do nothing, on none, on what the session holds and on what it waits for; nor does Ask let go, nor Release ask.
func TestOtherKinds(t *testing.T) {
	for kind := -3; kind < 20; kind++ {
		asks, releases := kind == lock || kind == rlock, kind == unlock || kind == runlock
		for _, session := range []int{1, 2, 3} {
			x := newBoth(t)
			x.line(1, 2)
			for _, name := range []string{"a", "b"} {
				if got, waits := x.ask(cmd(kind, session, name)); !asks && (len(got) != 0 || waits) {
					t.Fatalf("Ask of kind %d: %v, %t", kind, got, waits)
				}
				if got := x.release(cmd(kind, session, name)); !releases && len(got) != 0 || releases && len(got) == 0 {
					t.Fatalf("Release of kind %d: %v", kind, got)
				}
				x.mustKnow("another kind")
			}
		}
	}
	for _, kind := range []int{least, -5, -7, 5 + 256, 6 + 256, 5 + 1<<32, 7 + 1<<32, greatest} {
		x := newBoth(t)
		x.line(1, 2)
		if got, waits := x.ask(cmd(kind, 3, "b")); len(got) != 0 || waits {
			t.Fatalf("Ask of kind %d: %v, %t", kind, got, waits)
		}
		if got := x.release(cmd(kind, 1, "a")); len(got) != 0 {
			t.Fatalf("Release of kind %d: %v", kind, got)
		}
		x.mustKnow("another kind")
	}
}

// N is nothing to a lock, and each other field is told again as it was.
func TestCommandsOfAnyNumbers(t *testing.T) {
	edges := []int{least, least + 1, -1, 0, 1, great, great + 1, 1 << 32, greatest - 1, greatest}
	for _, session := range edges {
		for _, seq := range edges {
			for _, n := range []int{least, 0, 7, greatest} {
				for _, name := range []string{"", "a", "\x00", "\xff\xfe", strings.Repeat("y", 64), strings.Repeat("y", 65), strings.Repeat("z", 3000)} {
					x := newBoth(t)
					c := api.Cmd{Kind: lock, Session: session, Seq: seq, Name: name, N: n}
					x.mustAsk(c, api.Reply{Session: session, Seq: seq, Token: 1})
					x.mustAsk(c, api.Reply{Session: session, Seq: seq, Err: api.ErrHeld})
					c.Kind = rlock
					x.mustAsk(c, api.Reply{Session: session, Seq: seq, Err: api.ErrHeld})
					c.Session--
					x.mustWait(c)
					x.mustAsk(c, api.Reply{Session: session - 1, Seq: seq, Err: api.ErrHeld})
					c.Session++
					c.Kind = unlock
					x.mustRelease(c, api.Reply{Session: session, Seq: seq}, api.Reply{Session: session - 1, Seq: seq, Token: 1})
					x.mustGo(session)
					x.mustGo(session - 1)
				}
			}
		}
	}
}

// Whoever holds the lock or waits for it is told ErrHeld, in whatever way it asks again, and stays where it is.
func TestErrHeld(t *testing.T) {
	x := newBoth(t)
	x.line(1, 2, -3, -4, 5)
	for _, s := range []int{1, 2, 3, 4, 5} {
		x.mustAsk(cmd(lock, s, "a"), refusal(s, api.ErrHeld))
		x.mustAsk(cmd(rlock, s, "a"), refusal(s, api.ErrHeld))
		x.mustQueue("a", 2, -3, -4, 5)
	}
	x.mustAsk(cmd(lock, 1, "b"), grant(1, 2)) // another lock
	x.mustAsk(cmd(lock, 2, "c"), grant(2, 3))
	x = newBoth(t)
	x.line(-1, -2, 3, -4)
	for _, s := range []int{1, 2, 3, 4} {
		x.mustAsk(cmd(lock, s, "a"), refusal(s, api.ErrHeld))
		x.mustAsk(cmd(rlock, s, "a"), refusal(s, api.ErrHeld))
	}
	x.mustHold("a", false, 1, 2)
	x.mustQueue("a", 3, -4)
	x.mustToken(0)
}

func TestErrHeldAheadOfAllElse(t *testing.T) {
	x := newBoth(t)
	x.full(most)
	x.setToken(noMore)
	x.mustAsk(cmd(lock, 7, names(0)), refusal(7, api.ErrHeld))
	x.mustAsk(cmd(rlock, 7, names(most-1)), refusal(7, api.ErrHeld))
	x.mustAsk(cmd(lock, 7, "none"), refusal(7, api.ErrFull)) // ahead of ErrExhausted
	x.mustAsk(cmd(rlock, 8, "none"), refusal(8, api.ErrFull))
}

// names gives the name of lock i; they are not in the order of i.
func names(i int) string { return "n" + strconv.Itoa(i) }

// full lets session 7 hold so many locks, by turns for writing and for reading.
func (x both) full(count int) {
	x.t.Helper()
	for i := range count {
		if i%2 == 0 {
			x.mustAskOne(cmd(lock, 7, names(i)), grant(7, uint64(i/2+1)))
		} else {
			x.mustAskOne(cmd(rlock, 7, names(i)), grant(7, uint64(i/2+1)))
		}
	}
	x.mustKnow("full")
}

func (x both) mustAskOne(c api.Cmd, want api.Reply) {
	x.t.Helper()
	if got, waits := x.ask(c); waits || !slices.Equal(got, []api.Reply{want}) {
		x.t.Fatalf("Ask(%v): %v, %t, not %v", c, got, waits, want)
	}
}

func TestMaxNames(t *testing.T) {
	if api.MaxNames != most {
		t.Fatal(api.MaxNames)
	}
	for _, kind := range []int{lock, rlock} {
		x := newBoth(t)
		x.full(most - 1)
		token := x.p.token
		x.mustAsk(cmd(rlock, 8, "last"), grant(8, token))
		for range 2 {
			x.mustAsk(cmd(kind, 9, "one more"), refusal(9, api.ErrFull))
		}
		x.mustWait(cmd(lock, 9, names(0))) // a known name
		x.mustWait(cmd(rlock, 10, names(0)))
		x.mustAsk(cmd(rlock, 9, names(1)), grant(9, token))
		x.mustRelease(cmd(runlock, 7, names(1)), ok(7)) // session 9 is left
		x.mustAsk(cmd(kind, 10, "one more"), refusal(10, api.ErrFull))
		x.mustRelease(cmd(unlock, 7, names(0)), ok(7), grant(9, token+1))
		x.mustAsk(cmd(kind, 10, "one more"), refusal(10, api.ErrFull))
		x.mustRelease(cmd(unlock, 7, names(2)), ok(7)) // nobody is left
		x.mustAsk(cmd(rlock, 10, "one more"), grant(10, token+1))
		x.mustAsk(cmd(kind, 11, names(2)), refusal(11, api.ErrFull))
		x.mustGo(10)
		x.mustAsk(cmd(lock, 11, names(2)), grant(11, token+2))
		x.mustAsk(cmd(kind, 12, "one more"), refusal(12, api.ErrFull))
		x.gone(7)
		x.mustKnow("Gone of most")
		x.mustAsk(cmd(lock, 12, "one more"), grant(12, token+3))
	}
}

// Each way of asking, behind each few that asked ahead.
func TestAskBehindOthers(t *testing.T) {
	for _, c := range []struct {
		ahead []int
		kind  int
		token uint64 // 0: it waits
	}{
		{nil, lock, 51}, {nil, rlock, 50},
		{[]int{1}, lock, 0}, {[]int{1}, rlock, 0},
		{[]int{-1}, lock, 0}, {[]int{-1}, rlock, 50},
		{[]int{-1, -2}, lock, 0}, {[]int{-1, -2}, rlock, 50},
		{[]int{-1, 2}, lock, 0}, {[]int{-1, 2}, rlock, 0}, // readers hold it and a writer waits
		{[]int{-1, -2, 3, -4}, lock, 0}, {[]int{-1, -2, 3, -4}, rlock, 0},
		{[]int{1, -2}, lock, 0}, {[]int{1, -2}, rlock, 0},
		{[]int{1, 2}, lock, 0}, {[]int{1, 2}, rlock, 0},
	} {
		x := newBoth(t)
		x.setToken(50)
		x.line(c.ahead...)
		was := x.p.queue("a")
		if c.token > 0 {
			x.mustAsk(cmd(c.kind, 9, "a"), grant(9, c.token))
			x.mustToken(c.token)
			continue
		}
		x.mustWait(cmd(c.kind, 9, "a"))
		if got := x.l.Queue("a"); !slices.Equal(got, append(was, api.Wait{Task: 9, Reader: c.kind == rlock, Blocked: true})) {
			t.Fatalf("%v: Queue %v", c.ahead, got)
		}
	}
}

// Promise 19.2.

func TestErrNotHeld(t *testing.T) {
	x := newBoth(t)
	x.mustRelease(cmd(unlock, 1, "a"), refusal(1, api.ErrNotHeld)) // no lock
	x.mustRelease(cmd(runlock, 1, "a"), refusal(1, api.ErrNotHeld))
	x.line(1, 2, -3)
	x.mustAsk(cmd(rlock, 4, "b"), grant(4, 1))
	x.mustAsk(cmd(rlock, 5, "b"), grant(5, 1))
	x.mustWait(cmd(lock, 6, "b"))
	for _, c := range []api.Cmd{
		cmd(runlock, 1, "a"),                      // the other way
		cmd(unlock, 2, "a"), cmd(runlock, 2, "a"), // it waits
		cmd(unlock, 3, "a"), cmd(runlock, 3, "a"), // it waits
		cmd(unlock, 9, "a"), cmd(runlock, 9, "a"), // another session holds it
		cmd(unlock, -1, "a"), cmd(unlock, 0, "a"), // no session
		cmd(unlock, 4, "b"), cmd(unlock, 5, "b"), // the other way
		cmd(unlock, 6, "b"), cmd(runlock, 6, "b"), // it waits
		cmd(unlock, 1, "b"), cmd(runlock, 1, "b"), // another session holds it
		cmd(unlock, 1, "c"), cmd(runlock, 4, "c"), // no lock
		cmd(unlock, 1, ""), cmd(unlock, 1, "a\x00"), // no lock
	} {
		x.mustRelease(c, refusal(c.Session, api.ErrNotHeld))
	}
	x.mustHold("a", true, 1)
	x.mustQueue("a", 2, -3)
	x.mustHold("b", false, 4, 5)
	x.mustQueue("b", 6)
	x.mustRelease(cmd(unlock, 1, "a"), ok(1), grant(2, 2))
	x.mustRelease(cmd(unlock, 1, "a"), refusal(1, api.ErrNotHeld)) // no more
}

// Who is granted the lock by its going, behind each few that asked: the first of them lets go of it, or all the readers that hold it do.
func TestGrantsBehindOthers(t *testing.T) {
	for _, c := range []struct {
		asked []int
		going int // how many let go, from the first on
		want  []api.Reply
		queue []int
	}{
		{[]int{1}, 1, nil, nil},
		{[]int{-1}, 1, nil, nil},
		{[]int{1, 2}, 1, []api.Reply{grant(2, 2)}, nil},
		{[]int{1, 2, 3}, 1, []api.Reply{grant(2, 2)}, []int{3}},
		{[]int{1, 2, -3}, 1, []api.Reply{grant(2, 2)}, []int{-3}},
		{[]int{1, -2}, 1, []api.Reply{grant(2, 1)}, nil},
		{[]int{1, -2, -3, -4}, 1, []api.Reply{grant(2, 1), grant(3, 1), grant(4, 1)}, nil},
		{[]int{1, -4, -3, -2}, 1, []api.Reply{grant(4, 1), grant(3, 1), grant(2, 1)}, nil},
		{[]int{1, -2, -3, 4, -5}, 1, []api.Reply{grant(2, 1), grant(3, 1)}, []int{4, -5}},
		{[]int{1, -2, 3, -4}, 1, []api.Reply{grant(2, 1)}, []int{3, -4}},
		{[]int{-1, 2}, 1, []api.Reply{grant(2, 1)}, nil},
		{[]int{-1, 2, 3}, 1, []api.Reply{grant(2, 1)}, []int{3}},
		{[]int{-1, 2, -3, -4}, 1, []api.Reply{grant(2, 1)}, []int{-3, -4}},
		{[]int{-1, -2, 3}, 1, nil, []int{3}}, // a reader is left
		{[]int{-1, -2, 3, -4}, 1, nil, []int{3, -4}},
		{[]int{-1, -2, 3, -4}, 2, []api.Reply{grant(3, 1)}, []int{-4}},
		{[]int{-1, -2}, 1, nil, nil},
	} {
		x := newBoth(t)
		x.line(c.asked...)
		for i, s := range c.asked[:c.going] {
			kind := unlock
			if s < 0 {
				kind, s = runlock, -s
			}
			if i == c.going-1 {
				x.mustRelease(cmd(kind, s, "a"), append([]api.Reply{ok(s)}, c.want...)...)
			} else {
				x.mustRelease(cmd(kind, s, "a"), ok(s))
			}
		}
		x.mustQueue("a", c.queue...)
	}
}

// An answer bears the Seq of what was asked, not that of what lets go of it, and lets others be.
func TestSeqs(t *testing.T) {
	x := newBoth(t)
	at := func(kind, session, seq int) api.Cmd {
		return api.Cmd{Kind: kind, Session: session, Seq: seq, Name: "a"}
	}
	x.mustAsk(at(lock, 1, 5), api.Reply{Session: 1, Seq: 5, Token: 1})
	x.mustWait(at(rlock, 2, 7))
	x.mustWait(at(rlock, 3, 9))
	x.mustAsk(at(lock, 3, 10), api.Reply{Session: 3, Seq: 10, Err: api.ErrHeld}) // 9 waits still
	x.mustRelease(at(runlock, 1, 6), api.Reply{Session: 1, Seq: 6, Err: api.ErrNotHeld})
	x.mustRelease(at(unlock, 1, 7), api.Reply{Session: 1, Seq: 7}, api.Reply{Session: 2, Seq: 7, Token: 1}, api.Reply{Session: 3, Seq: 9, Token: 1})
	x.mustWait(at(lock, 1, 8))
	x.mustRelease(at(runlock, 2, 11), api.Reply{Session: 2, Seq: 11})
	x.mustRelease(at(runlock, 3, 12), api.Reply{Session: 3, Seq: 12}, api.Reply{Session: 1, Seq: 8, Token: 2})
}

// Promise 19.3.

// Who goes of one lock: each of those that asked, behind each few that did.
func TestGoneOfOneLock(t *testing.T) {
	for _, c := range []struct {
		asked []int
		gone  int
		want  []api.Reply
		queue []int
	}{
		{nil, 1, nil, nil},
		{[]int{1}, 1, nil, nil},
		{[]int{-1}, 1, nil, nil},
		{[]int{1, 2, -3}, 9, nil, []int{2, -3}}, // it is not there
		{[]int{1, 2, -3}, 0, nil, []int{2, -3}},
		{[]int{1, 2, -3}, -1, nil, []int{2, -3}},
		{[]int{1, 2, -3}, 1, []api.Reply{grant(2, 2)}, []int{-3}}, // the holder
		{[]int{1, -2, -3, 4}, 1, []api.Reply{grant(2, 1), grant(3, 1)}, []int{4}},
		{[]int{1, 2, -3, 4}, 2, nil, []int{-3, 4}},                                            // at the front, behind a writer
		{[]int{1, 2, -3, 4}, 3, nil, []int{2, 4}},                                             // in the middle
		{[]int{1, 2, -3, 4}, 4, nil, []int{2, -3}},                                            // at the end
		{[]int{1, 2}, 2, nil, nil},                                                            // alone
		{[]int{-1, 2, -3, -4, 5, -6}, 2, []api.Reply{grant(3, 0), grant(4, 0)}, []int{5, -6}}, // at the front, behind a reader
		{[]int{-1, 2, 3, -4}, 2, nil, []int{3, -4}},
		{[]int{-1, 2, 3, -4}, 3, nil, []int{2, -4}},
		{[]int{-1, 2, -3}, 2, []api.Reply{grant(3, 0)}, nil},
		{[]int{-1, 2, -3, 4}, 1, []api.Reply{grant(2, 1)}, []int{-3, 4}},
		{[]int{-1, -2, 3, -4}, 1, nil, []int{3, -4}}, // one of two readers
		{[]int{-1, -2, 3, -4}, 2, nil, []int{3, -4}},
	} {
		x := newBoth(t)
		x.line(c.asked...)
		x.mustGo(c.gone, c.want...)
		x.mustQueue("a", c.queue...)
		x.mustGo(c.gone) // there is no more of it
		if c.gone > 0 && c.gone < 9 {
			x.ask(cmd(lock, c.gone, "a")) // it may ask anew
			x.mustKnow("asked anew")
		}
	}
}

// What follows is told lock by lock by rising names, and tokens are handed out in that order, whatever the order of asking.
func TestGoneOfSeveral(t *testing.T) {
	sorted := []string{"", "B", "a", "a\x00", "aa", "ab", "b", "\x80", "\xff", "\xff\x00"}
	for turn := range sorted {
		x := newBoth(t)
		for i := range sorted {
			name := sorted[(i*7+turn)%len(sorted)]
			x.ask(cmd(lock, 1, name))
			x.ask(api.Cmd{Kind: lock, Session: 2, Seq: 100 + (i*7+turn)%len(sorted), Name: name})
			x.ask(api.Cmd{Kind: rlock, Session: 3, Seq: 200, Name: name})
		}
		x.mustToken(10)
		var want []api.Reply
		for i := range sorted {
			want = append(want, api.Reply{Session: 2, Seq: 100 + i, Token: uint64(11 + i)})
		}
		x.mustGo(1, want...)
	}
}

// A session that holds some locks, in both ways, and waits for others, at all places.
func TestGoneOfWhoHoldsAndWaits(t *testing.T) {
	x := newBoth(t)
	x.mustAsk(cmd(lock, 1, "b"), grant(1, 1))
	x.mustAsk(cmd(rlock, 1, "d"), grant(1, 1))
	x.mustAsk(cmd(rlock, 2, "d"), grant(2, 1))
	x.mustWait(cmd(lock, 3, "d"))
	x.mustAsk(cmd(rlock, 2, "a"), grant(2, 1))
	x.mustWait(cmd(lock, 1, "a"))
	x.mustWait(cmd(rlock, 4, "a"))
	x.mustWait(cmd(rlock, 5, "b"))
	x.mustWait(cmd(lock, 6, "b"))
	x.mustAsk(cmd(lock, 7, "c"), grant(7, 2))
	x.mustWait(cmd(lock, 8, "c"))
	x.mustWait(cmd(rlock, 1, "c"))
	x.mustWait(cmd(lock, 9, "c"))
	x.mustAsk(cmd(rlock, 1, "e"), grant(1, 2))
	x.mustWait(cmd(lock, 10, "e"))
	x.mustAsk(cmd(lock, 1, "f"), grant(1, 3))
	x.mustAsk(cmd(lock, 11, "g"), grant(11, 4))
	x.mustWait(cmd(lock, 12, "g"))
	x.mustGo(1, grant(4, 4), grant(5, 4), grant(10, 5))
	x.mustHold("a", false, 2, 4)
	x.mustHold("b", false, 5)
	x.mustQueue("b", 6)
	x.mustHold("c", true, 7)
	x.mustQueue("c", 8, 9)
	x.mustHold("d", false, 2)
	x.mustQueue("d", 3)
	x.mustHold("e", true, 10)
	x.mustHold("f", false)
	x.mustHold("g", true, 11)
	x.mustQueue("g", 12)
	x.mustGo(2, grant(3, 6))
	x.mustHold("a", false, 4)
}

// A row from which many go, at all its places, keeps its order.
func TestGoneFromALongQueue(t *testing.T) {
	for first := 1; first <= 7; first++ {
		x := newBoth(t)
		x.mustAsk(cmd(lock, 100, "a"), grant(100, 1))
		for s := 1; s <= 40; s++ {
			x.mustWait(cmd(lock+2*(s%2), s, "a"))
		}
		for s := first; s <= 40; s += 7 {
			x.mustGo(s)
		}
		for s := 41; s <= 45; s++ {
			x.mustWait(cmd(lock, s, "a"))
		}
		x.mustGo(45)
		x.mustGo(100, x.p.copy().gone(100)...)
		for s := range 46 {
			x.gone(s)
			x.mustKnow("one after another")
		}
	}
}

// Holders are told rising, whatever the order of asking.
func TestHolders(t *testing.T) {
	x := newBoth(t)
	for _, s := range []int{5, -1, 3, greatest, 4, least, 0, 1, 2} {
		x.mustAsk(api.Cmd{Kind: rlock, Session: s, Seq: 1, Name: "a"}, api.Reply{Session: s, Seq: 1})
	}
	x.mustHold("a", false, least, -1, 0, 1, 2, 3, 4, 5, greatest)
	x.mustGo(3)
	x.mustHold("a", false, least, -1, 0, 1, 2, 4, 5, greatest)
	x.mustHold("A", false)
}

func TestSetToken(t *testing.T) {
	for _, n := range []uint64{0, 1, 127, 128, 1 << 30, 1<<63 - 1, 1 << 63, noMore - 1, noMore} {
		x := newBoth(t)
		x.setToken(n)
		x.mustToken(n)
		x.mustAsk(cmd(rlock, 1, "r"), grant(1, n)) // one for reading bears the counter
		if n == noMore {
			continue
		}
		x.mustAsk(cmd(lock, 1, "a"), grant(1, n+1))
		x.mustToken(n + 1)
		x.setToken(5) // also to less
		x.mustAsk(cmd(lock, 1, "b"), grant(1, 6))
	}
}

// At the last token and behind it: writers that ask at once.
func TestExhausted(t *testing.T) {
	x := newBoth(t)
	x.setToken(noMore - 1)
	x.mustAsk(cmd(rlock, 1, "r"), grant(1, noMore-1))
	x.mustAsk(cmd(lock, 1, "a"), grant(1, noMore))
	for range 2 {
		x.mustAsk(cmd(lock, 2, "b"), refusal(2, api.ErrExhausted)) // no such lock is there behind it
		x.mustHold("b", false)
		x.mustToken(noMore)
	}
	x.mustWait(cmd(lock, 2, "a")) // it is held: the grant is refused later
	x.mustAsk(cmd(rlock, 2, "b"), grant(2, noMore))
	x.mustRelease(cmd(unlock, 1, "a"), ok(1), refusal(2, api.ErrExhausted))
	x.mustHold("a", false)
	x.setToken(7)
	x.mustAsk(cmd(lock, 2, "a"), grant(2, 8))
	x.setToken(noMore)
	x = newBoth(t)
	x.full(most - 1)
	x.setToken(noMore)
	x.mustAsk(cmd(lock, 8, "a"), refusal(8, api.ErrExhausted))
	x.mustAsk(cmd(rlock, 8, "b"), grant(8, noMore)) // the refused one took no place
	x.mustAsk(cmd(lock, 8, "a"), refusal(8, api.ErrFull))
}

// Writers that wait when tokens are used up wait no more, and the next is looked at.
func TestExhaustedInTheQueue(t *testing.T) {
	for _, c := range []struct {
		token uint64
		asked []int
		want  []api.Reply
		queue []int
	}{
		{noMore - 1, []int{1, 2, 3}, []api.Reply{grant(2, noMore)}, []int{3}},
		{noMore, []int{1, 2}, []api.Reply{refusal(2, api.ErrExhausted)}, nil},
		{noMore, []int{1, 2, 3}, []api.Reply{refusal(2, api.ErrExhausted), refusal(3, api.ErrExhausted)}, nil},
		{noMore, []int{1, 2, -3, -4, 5, -6}, []api.Reply{refusal(2, api.ErrExhausted), grant(3, noMore), grant(4, noMore)}, []int{5, -6}},
		{noMore, []int{1, -2, 3, -4}, []api.Reply{grant(2, noMore)}, []int{3, -4}},
		{noMore, []int{-1, 2, -3}, []api.Reply{refusal(2, api.ErrExhausted), grant(3, noMore)}, nil},
	} {
		for _, goes := range []bool{false, true} {
			x := newBoth(t)
			x.line(c.asked...)
			x.setToken(c.token)
			switch {
			case goes:
				x.mustGo(1, c.want...)
			case c.asked[0] < 0:
				x.mustRelease(cmd(runlock, 1, "a"), append([]api.Reply{ok(1)}, c.want...)...)
			default:
				x.mustRelease(cmd(unlock, 1, "a"), append([]api.Reply{ok(1)}, c.want...)...)
			}
			x.mustQueue("a", c.queue...)
		}
	}
	x := newBoth(t) // over several locks the last token goes to the first by name
	x.mustAsk(cmd(lock, 1, "b"), grant(1, 1))
	x.mustAsk(cmd(lock, 1, "a"), grant(1, 2))
	x.mustWait(cmd(lock, 2, "b"))
	x.mustWait(cmd(lock, 3, "a"))
	x.mustWait(cmd(rlock, 4, "b"))
	x.setToken(noMore - 1)
	x.mustGo(1, grant(3, noMore), refusal(2, api.ErrExhausted), grant(4, noMore))
}

func TestNil(t *testing.T) {
	var l *locks.Locks
	for kind := range 14 {
		for _, name := range []string{"", "a"} {
			if got, waits := l.Ask(cmd(kind, 1, name)); len(got) != 0 || waits {
				t.Errorf("Ask: %v, %t", got, waits)
			}
			if got := l.Release(cmd(kind, 1, name)); len(got) != 0 {
				t.Errorf("Release: %v", got)
			}
			if got, writer := l.Holders(name); len(got) != 0 || writer {
				t.Errorf("Holders: %v, %t", got, writer)
			}
			if got := l.Queue(name); len(got) != 0 {
				t.Errorf("Queue: %v", got)
			}
		}
	}
	for _, session := range []int{least, 0, 1, greatest} {
		if got := l.Gone(session); len(got) != 0 {
			t.Errorf("Gone: %v", got)
		}
	}
	l.SetToken(7)
	if n, text := l.Token(), l.Encode(); n != 0 || text != "" {
		t.Errorf("Token %d, Encode %q", n, text)
	}
}

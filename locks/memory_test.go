package locks_test

import (
	"runtime"
	"slices"
	"strings"
	"testing"
	"unsafe"

	"latchkey/api"
	"latchkey/locks"
)

// Rule R4.

// own gives a text with memory of its own, which may be spoiled.
func own(s string) string { return strings.Clone(s) }

func spoil(s string) { clear(unsafe.Slice(unsafe.StringData(s), len(s))) }

func TestWhatIsHandedInIsNotKept(t *testing.T) {
	for _, kind := range []int{lock, rlock} {
		x := newBoth(t)
		for _, c := range []api.Cmd{{Kind: kind, Session: 1, Seq: 1, Name: "name"}, {Kind: lock, Session: 2, Seq: 1, Name: "name"}, {Kind: rlock, Session: 3, Seq: 1, Name: "name"}} {
			x.p.ask(c)
			name := own(c.Name)
			c.Name = name
			x.l.Ask(c)
			spoil(name)
			x.mustKnow("behind the spoiling")
		}
		name := own("name")
		x.l.Release(api.Cmd{Kind: kind + 1, Session: 1, Seq: 2, Name: name})
		x.p.release(api.Cmd{Kind: kind + 1, Session: 1, Seq: 2, Name: "name"})
		spoil(name)
		x.mustKnow("behind the spoiling")
	}
	x := some(t)
	s := own(x.l.Encode())
	l, err := locks.Decode(s)
	if err != api.OK {
		t.Fatal(err)
	}
	spoil(s)
	mustKnow(t, "behind the spoiling of what was read", l, x.p)
}

func TestWhatIsHandedOutIsNew(t *testing.T) {
	x := some(t)
	s, other := x.l.Encode(), x.l.Encode()
	spoil(other)
	holders, _ := x.l.Holders("reads")
	others, _ := x.l.Holders("reads")
	clear(others[:cap(others)])
	queue, queues := x.l.Queue("reads"), x.l.Queue("reads")
	clear(queues[:cap(queues)])
	x.mustKnow("behind the spoiling")
	if s != textOf(x.p) || !slices.Equal(holders, []int{2, 5, 9}) || !slices.Equal(queue, x.p.queue("reads")) {
		t.Fatalf("another answer was spoiled: %q, %v, %v", s, holders, queue)
	}
	for _, l := range [][]api.Reply{
		x.release(cmd(unlock, 1, "b")), x.release(cmd(runlock, 9, "none")), x.gone(2), x.gone(5), x.gone(9), first(x.ask(cmd(lock, 1, "new"))), first(x.ask(cmd(lock, 1, "new"))),
	} {
		clear(l[:cap(l)])
		x.mustKnow("behind the spoiling of replies")
	}
}

func first(l []api.Reply, _ bool) []api.Reply { return l }

// What lies behind the end of an answer is nobody's, and nor is what two calls told.
func TestAnswersMayBeAppendedTo(t *testing.T) {
	x := newBoth(t)
	for _, name := range []string{"a", "b", "c"} {
		x.line(1)
		for s := 1; s < 6; s++ {
			x.ask(cmd(lock, s, name))
		}
	}
	a := x.gone(1)
	was := slices.Clone(a)
	_ = append(a, grant(77, 77))
	b := x.gone(2)
	_ = append(b, grant(78, 78))
	if !slices.Equal(a, was) || !slices.Equal(b, []api.Reply{grant(3, 7), grant(3, 8), grant(3, 9)}) {
		t.Fatal(a, b)
	}
	x.mustKnow("appended to")
}

// What was handed out stays as it was, whatever is done behind it.
func TestWhatIsHandedOutStays(t *testing.T) {
	x := some(t)
	s, want := x.l.Encode(), textOf(x.p)
	holders, _ := x.l.Holders("reads")
	queue, wantQueue := x.l.Queue("reads"), x.p.queue("reads")
	replies := x.release(cmd(unlock, 1, "b"))
	for session := range 80 {
		x.gone(session)
	}
	x.setToken(9)
	if s != want || !slices.Equal(holders, []int{2, 5, 9}) || !slices.Equal(queue, wantQueue) || !slices.Equal(replies, []api.Reply{ok(1), grant(2, 202)}) {
		t.Fatal(s, holders, queue, replies)
	}
}

// Of one text each Decode makes locks of its own.
func TestLocksShareNothing(t *testing.T) {
	x := some(t)
	s := x.l.Encode()
	a, _ := locks.Decode(s)
	b, _ := locks.Decode(s)
	for session := range 80 {
		a.Gone(session)
		a.Ask(cmd(lock, session, "reads"))
	}
	a.SetToken(1)
	mustKnow(t, "another of the same text", b, x.p)
	x.mustKnow("what was encoded")
	one, two := locks.New(), locks.New()
	one.Ask(cmd(lock, 1, "a"))
	mustKnow(t, "another new one", two, &plain{})
}

// Of a lock that is let go of nothing is kept, nor of who went, nor of what was refused.
func TestNoMoreIsKept(t *testing.T) {
	x := newBoth(t)
	x.line(1, 2)
	before := heap()
	for i := range 100000 {
		s := i + 10
		name := strings.Repeat("n", 100) + names(i)
		x.l.Ask(cmd(rlock, s, name))
		x.l.Ask(cmd(lock, s+1, name))
		x.l.Release(cmd(runlock, s, name))
		x.l.Release(cmd(unlock, s+1, name))
		x.l.Release(cmd(unlock, s, name))
		x.l.Ask(cmd(lock, s, "a"))
		x.l.Ask(cmd(lock, s, "a"))
		x.l.Gone(s)
		x.l.Holders(name)
		x.l.Queue(name)
	}
	if after := heap(); after > before+1<<20 {
		t.Fatalf("%d bytes, then %d", before, after)
	}
	x.p.token = x.l.Token()
	x.mustKnow("behind all that")
}

// heap tells how many bytes are kept.
func heap() uint64 {
	runtime.GC()
	var m runtime.MemStats
	runtime.ReadMemStats(&m)
	return m.HeapAlloc
}

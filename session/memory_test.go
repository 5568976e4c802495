package session_test

import (
	"runtime"
	"slices"
	"testing"
	"unsafe"

	"latchkey/api"
	"latchkey/session"
)

// Rule R4.

func TestWhatIsHandedOutIsNew(t *testing.T) {
	x := some(t)
	all, text := x.s.All(), x.s.Encode()
	other, otherText := x.s.All(), x.s.Encode()
	clear(other[:cap(other)])
	clear(unsafe.Slice(unsafe.StringData(otherText), len(otherText)))
	r, _ := x.s.Begin(5, 3)
	r.N, r.Token, r.Seq = 99, 99, 99
	x.mustKnow("behind the spoiling")
	x.mustAll(2, 4, 5)
	if !slices.Equal(all, []int{2, 4, 5}) || text != textOf(x.p) {
		t.Fatalf("another answer was spoiled: %v, %q", all, text)
	}
	s := mustDecode(t, "Decode", text, x.p)
	clear(unsafe.Slice(unsafe.StringData(text), len(text)))
	mustKnow(t, "behind the spoiling of what was read", s, x.p)
}

// What lies behind the end of what All told is nobody's, and nor is what two calls told.
func TestAllMayBeAppendedTo(t *testing.T) {
	x := withOpen(t, 5)
	a, b := x.s.All(), x.s.All()
	_, _ = append(a, 91), append(b, 92)
	a[0], b[1] = 93, 94
	x.mustAll(1, 2, 3, 4, 5)
	if !slices.Equal(a, []int{93, 2, 3, 4, 5}) || !slices.Equal(b, []int{1, 94, 3, 4, 5}) {
		t.Fatal(a, b)
	}
}

// What was handed out stays as it was, whatever is done behind it.
func TestWhatIsHandedOutStays(t *testing.T) {
	x := some(t)
	all, text, want := x.s.All(), x.s.Encode(), textOf(x.p)
	r, _ := x.s.Begin(5, 3)
	x.mustClose(2, true)
	x.mustOpen(6, 1, 7, true, api.OK)
	x.mustBegin(5, 4, 0)
	x.mustEnd(reply(5, 4), true)
	if !slices.Equal(all, []int{2, 4, 5}) || text != want || r != (api.Reply{Session: 5, Seq: 3, N: 5}) {
		t.Fatal(all, text, r)
	}
}

// Of one text each Decode makes sessions of its own.
func TestSessionsShareNothing(t *testing.T) {
	x := some(t)
	text := x.s.Encode()
	a, _ := session.Decode(text)
	b, _ := session.Decode(text)
	a.Close(2)
	a.Begin(5, 9)
	a.End(reply(5, 9))
	a.Open(3, great)
	a.End(reply(2, 4))
	mustKnow(t, "another of the same text", b, x.p)
	x.mustKnow("what was encoded")
	one, two := session.New(), session.New()
	one.Open(3, 1)
	mustKnow(t, "another new one", two, &plain{})
}

// Of a session no answer but the last is kept, and what was only asked for isn't either.
func TestNoMoreIsKept(t *testing.T) {
	x := withOpen(t, 2)
	before := heap()
	for i := range 300000 {
		seq := i + 1
		x.s.Begin(1, seq)
		x.s.End(reply(1, seq))
		x.s.Begin(i+3, 1)
		x.s.End(reply(i+3, 1))
		x.s.Close(i + 3)
		x.s.Open(1, 1)
		x.s.Open(2, 0)
		x.s.Open(8+i, 1)
	}
	if after := heap(); after > before+1<<20 {
		t.Fatalf("%d bytes, then %d", before, after)
	}
	if r, how := x.s.Begin(1, 300000); r != reply(1, 300000) || how != 1 {
		t.Fatal(r, how)
	}
	x.mustAll(1, 2)
}

// heap tells how many bytes are kept.
func heap() uint64 {
	runtime.GC()
	var m runtime.MemStats
	runtime.ReadMemStats(&m)
	return m.HeapAlloc
}

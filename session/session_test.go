package session_test

import (
	"math"
	"math/rand/v2"
	"slices"
	"testing"

	"latchkey/api"
	"latchkey/session"
)

const (
	least    = math.MinInt
	greatest = math.MaxInt
	great    = 1 << 30 // the greatest life, the greatest N
	most     = 256     // sessions that are open
)

// Edges of a client, and of a life.
var (
	clients = []int{least, least + 1, -2, -1, 0, 1, 3, 6, 7, 8, 9, 255, 256, great, greatest - 1, greatest}
	lives   = []int{least, least + 1, -2, -1, 0, 1, 2, 3, great - 1, great, great + 1, 1 << 31, 1 << 32, 1<<32 + 1, greatest - 1, greatest}
)

// reply gives an answer in which no field is 0.
func reply(id, seq int) api.Reply {
	return api.Reply{Session: id, Seq: seq, Err: api.ErrHeld, Token: 77, N: -5}
}

// row is a session of the plain model.
type row struct {
	client, life int
	open         bool
	seq          int
	answered     bool
	answer       api.Reply
}

// plain is the chapter's words over a row of sessions, which is looked through for each call: the session of id stands at id - 1.
type plain struct{ rows []row }

func (p *plain) at(id int) *row {
	for i := range p.rows {
		if i+1 == id {
			return &p.rows[i]
		}
	}
	return nil
}

func (p *plain) opened() []int {
	var l []int
	for i, x := range p.rows {
		if x.open {
			l = append(l, i+1)
		}
	}
	return l
}

func (p *plain) openNew(client, life int) (int, bool, api.Errno) {
	if client < 0 || client > 7 || life < 1 || life > great {
		return 0, false, api.ErrArg
	}
	same := 0
	for i, x := range p.rows {
		if x.client == client && x.life > life {
			return 0, false, api.ErrStale
		}
		if x.client == client && x.life == life {
			same = i + 1
		}
	}
	if same > 0 {
		return same, false, api.OK
	}
	if len(p.opened()) >= most {
		return 0, false, api.ErrFull
	}
	p.rows = append(p.rows, row{client: client, life: life, open: true})
	return len(p.rows), true, api.OK
}

func (p *plain) client(id int) (int, int, bool) {
	if x := p.at(id); x != nil {
		return x.client, x.life, true
	}
	return 0, 0, false
}

func (p *plain) close(id int) bool {
	x := p.at(id)
	if x == nil || !x.open {
		return false
	}
	x.open = false
	return true
}

func (p *plain) begin(id, seq int) (api.Reply, int) {
	x := p.at(id)
	if x != nil && seq == x.seq && x.answered {
		return x.answer, 1
	}
	if x == nil || !x.open {
		return api.Reply{}, 4
	}
	if seq == x.seq {
		return api.Reply{}, 2
	}
	if seq < x.seq {
		return api.Reply{}, 3
	}
	if x.seq > 0 && !x.answered {
		return api.Reply{}, 5
	}
	*x = row{client: x.client, life: x.life, open: true, seq: seq}
	return api.Reply{}, 0
}

func (p *plain) end(r api.Reply) bool {
	x := p.at(r.Session)
	if x == nil || x.seq != r.Seq || r.Seq <= 0 || x.answered {
		return false
	}
	x.answered, x.answer = true, r
	return true
}

// mustKnow looks whether all that can be asked of s is answered as by p. It asks Begin only what changes nothing.
func mustKnow(t *testing.T, what string, s *session.Sessions, p *plain) {
	t.Helper()
	if got, want := s.All(), p.opened(); !slices.Equal(got, want) {
		t.Fatalf("%s: All %v, not %v", what, got, want)
	}
	ids := []int{least, -1, 0, len(p.rows) + 1, len(p.rows) + 2, greatest}
	for i := range p.rows {
		ids = append(ids, i+1)
	}
	for _, id := range ids {
		client, life, ok := s.Client(id)
		wantClient, wantLife, want := p.client(id)
		if client != wantClient || life != wantLife || ok != want {
			t.Fatalf("%s: Client(%d): %d, %d, %t, not %d, %d, %t", what, id, client, life, ok, wantClient, wantLife, want)
		}
		last := 0
		if x := p.at(id); x != nil {
			last = x.seq
		}
		for _, seq := range []int{least, -1, 0, last - 1, last} {
			got, how := s.Begin(id, seq)
			if want, wantHow := p.begin(id, seq); got != want || how != wantHow {
				t.Fatalf("%s: Begin(%d, %d): %v, %d, not %v, %d", what, id, seq, got, how, want, wantHow)
			}
		}
	}
	if got, want := s.Encode(), textOf(p); got != want {
		t.Fatalf("%s: Encode %q, not %q", what, got, want)
	}
}

// both is sessions and the plain model of them, to which the same is done.
type both struct {
	t *testing.T
	s *session.Sessions
	p *plain
}

func newBoth(t *testing.T) both {
	t.Helper()
	x := both{t, session.New(), &plain{}}
	mustKnow(t, "New", x.s, x.p)
	return x
}

// withOpen gives some that are open: lives 1, 2, .. of clients 0 to 7 by turns.
func withOpen(t *testing.T, count int) both {
	t.Helper()
	x := newBoth(t)
	for i := range count {
		x.p.openNew(i%8, i/8+1)
		if id, fresh, err := x.s.Open(i%8, i/8+1); id != i+1 || !fresh || err != api.OK {
			t.Fatalf("Open(%d, %d): %d, %t, %d", i%8, i/8+1, id, fresh, err)
		}
	}
	mustKnow(t, "open", x.s, x.p)
	return x
}

func (x both) mustKnow(what string) {
	x.t.Helper()
	mustKnow(x.t, what, x.s, x.p)
}

func (x both) open(client, life int) (int, bool, api.Errno) {
	x.t.Helper()
	id, fresh, err := x.s.Open(client, life)
	if wantId, want, wantErr := x.p.openNew(client, life); id != wantId || fresh != want || err != wantErr {
		x.t.Fatalf("Open(%d, %d): %d, %t, %d, not %d, %t, %d", client, life, id, fresh, err, wantId, want, wantErr)
	}
	return id, fresh, err
}

func (x both) close(id int) bool {
	x.t.Helper()
	got := x.s.Close(id)
	if want := x.p.close(id); got != want {
		x.t.Fatalf("Close(%d): %t, not %t", id, got, want)
	}
	return got
}

func (x both) begin(id, seq int) (api.Reply, int) {
	x.t.Helper()
	r, how := x.s.Begin(id, seq)
	if want, wantHow := x.p.begin(id, seq); r != want || how != wantHow {
		x.t.Fatalf("Begin(%d, %d): %v, %d, not %v, %d", id, seq, r, how, want, wantHow)
	}
	return r, how
}

func (x both) end(r api.Reply) bool {
	x.t.Helper()
	got := x.s.End(r)
	if want := x.p.end(r); got != want {
		x.t.Fatalf("End(%v): %t, not %t", r, got, want)
	}
	return got
}

// The calls again, with what must be told by a value of its own.

func (x both) mustOpen(client, life, id int, fresh bool, err api.Errno) {
	x.t.Helper()
	if gotId, got, gotErr := x.open(client, life); gotId != id || got != fresh || gotErr != err {
		x.t.Fatalf("Open(%d, %d): %d, %t, %d, not %d, %t, %d", client, life, gotId, got, gotErr, id, fresh, err)
	}
	x.mustKnow("Open")
}

func (x both) mustClose(id int, want bool) {
	x.t.Helper()
	if got := x.close(id); got != want {
		x.t.Fatalf("Close(%d): %t", id, got)
	}
	x.mustKnow("Close")
}

// mustBegin asks for a number other than 1.
func (x both) mustBegin(id, seq, how int) {
	x.t.Helper()
	if r, got := x.begin(id, seq); got != how || r != (api.Reply{}) {
		x.t.Fatalf("Begin(%d, %d): %v, %d, not %d", id, seq, r, got, how)
	}
	x.mustKnow("Begin")
}

func (x both) mustAnswer(r api.Reply) {
	x.t.Helper()
	if got, how := x.begin(r.Session, r.Seq); got != r || how != 1 {
		x.t.Fatalf("Begin(%d, %d): %v, %d, not %v", r.Session, r.Seq, got, how, r)
	}
	x.mustKnow("Begin")
}

func (x both) mustEnd(r api.Reply, want bool) {
	x.t.Helper()
	if got := x.end(r); got != want {
		x.t.Fatalf("End(%v): %t", r, got)
	}
	x.mustKnow("End")
}

func (x both) mustAll(want ...int) {
	x.t.Helper()
	if got := x.s.All(); !slices.Equal(got, want) {
		x.t.Fatalf("All: %v, not %v", got, want)
	}
}

func TestExamples(t *testing.T) {
	x := newBoth(t)
	x.mustOpen(3, 1, 1, true, api.OK)
	x.mustOpen(3, 1, 1, false, api.OK)
	x.mustBegin(1, 1, 0)
	x.mustBegin(1, 1, 2)
	x.mustEnd(reply(1, 1), true)
	x.mustAnswer(reply(1, 1))
	x.mustBegin(1, 2, 0)
	x.mustBegin(1, 3, 5)
}

// Promise 18.1.

func TestNew(t *testing.T) {
	x := newBoth(t)
	x.mustAll()
	for _, id := range []int{least, -1, 0, 1, 2, greatest} {
		x.mustClose(id, false)
	}
}

// Each client with each life, on none and behind others.
func TestOpenArguments(t *testing.T) {
	for _, client := range clients {
		for _, life := range lives {
			x := newBoth(t)
			if 0 <= client && client <= 7 && 1 <= life && life <= great {
				x.mustOpen(client, life, 1, true, api.OK)
				x.mustOpen(client, life, 1, false, api.OK)
				x.mustAll(1)
			} else {
				x.mustOpen(client, life, 0, false, api.ErrArg)
				x.mustAll()
				x.mustOpen(3, 1, 1, true, api.OK) // no id was used up
			}
			x = withOpen(t, 20)
			x.open(client, life)
			x.mustKnow("Open behind others")
		}
	}
}

func TestOpenLives(t *testing.T) {
	x := newBoth(t)
	x.mustOpen(3, 5, 1, true, api.OK)
	for _, life := range []int{1, 2, 4} {
		x.mustOpen(3, life, 0, false, api.ErrStale)
	}
	for _, life := range []int{0, -1, least, great + 1, greatest} {
		x.mustOpen(3, life, 0, false, api.ErrArg)
	}
	x.mustOpen(3, 5, 1, false, api.OK)
	x.mustOpen(3, 6, 2, true, api.OK)
	x.mustOpen(3, 5, 0, false, api.ErrStale) // it is known, open, and not the latest
	x.mustOpen(3, 6, 2, false, api.OK)
	x.mustOpen(4, 5, 3, true, api.OK) // another client has lives of its own
	x.mustOpen(3, great, 4, true, api.OK)
	x.mustOpen(3, great-1, 0, false, api.ErrStale)
	x.mustOpen(3, great, 4, false, api.OK)
	x.mustAll(1, 2, 3, 4)
}

// A session that is closed stays its life's.
func TestOpenBehindClose(t *testing.T) {
	x := newBoth(t)
	x.mustOpen(3, 5, 1, true, api.OK)
	x.mustBegin(1, 7, 0)
	x.mustClose(1, true)
	x.mustOpen(3, 5, 1, false, api.OK)
	x.mustOpen(3, 4, 0, false, api.ErrStale)
	x.mustAll()
	x.mustBegin(1, 8, 4)
	x.mustOpen(3, 6, 2, true, api.OK)
	x.mustAll(2)
	x.mustOpen(3, 5, 0, false, api.ErrStale)
	x.mustBegin(2, 1, 0) // the new one has a Seq of its own
	x.mustClose(2, true)
	x.mustOpen(0, 1, 3, true, api.OK)
	x.mustAll(3)
}

func TestMaxSessions(t *testing.T) {
	if api.MaxSessions != most {
		t.Fatal(api.MaxSessions)
	}
	x := withOpen(t, most-1)
	x.mustOpen(0, 100, most, true, api.OK)
	for range 2 {
		x.mustOpen(1, 100, 0, false, api.ErrFull)
		x.mustOpen(7, great, 0, false, api.ErrFull)
	}
	x.mustOpen(0, 100, most, false, api.OK) // it is there already
	x.mustOpen(7, 31, 248, false, api.OK)
	x.mustOpen(0, 99, 0, false, api.ErrStale)
	x.mustOpen(8, 100, 0, false, api.ErrArg)
	x.mustOpen(1, great+1, 0, false, api.ErrArg)
	x.mustClose(17, true)
	x.mustClose(17, false)
	x.mustOpen(1, 100, most+1, true, api.OK)
	x.mustOpen(1, 101, 0, false, api.ErrFull)
	x.mustClose(most+1, true)
	x.mustOpen(1, 100, most+1, false, api.OK) // closed, and still known
	x.mustOpen(2, 100, most+2, true, api.OK)
	x.mustOpen(1, 100, most+1, false, api.OK) // closed, and known while it is full
	x.mustOpen(1, 101, 0, false, api.ErrFull)
	for id := 1; id <= most+2; id++ {
		x.mustClose(id, id != 17 && id != most+1)
	}
	x.mustAll()
	x.mustOpen(1, 101, most+3, true, api.OK)
}

func TestClient(t *testing.T) {
	x := withOpen(t, 30)
	x.mustClose(12, true)
	for id := -3; id < 40; id++ {
		client, life, ok := x.s.Client(id)
		if want := 1 <= id && id <= 30; ok != want || want && (client != (id-1)%8 || life != (id-1)/8+1) || !want && (client != 0 || life != 0) {
			t.Errorf("Client(%d): %d, %d, %t", id, client, life, ok)
		}
	}
	for _, id := range []int{least, least + 1, greatest - 1, greatest} {
		if client, life, ok := x.s.Client(id); client != 0 || life != 0 || ok {
			t.Errorf("Client(%d): %d, %d, %t", id, client, life, ok)
		}
	}
}

func TestClose(t *testing.T) {
	x := withOpen(t, 4)
	for _, id := range []int{least, -1, 0, 5, 6, greatest} {
		x.mustClose(id, false)
	}
	x.mustClose(2, true)
	x.mustClose(2, false)
	x.mustAll(1, 3, 4)
	x.mustClose(4, true)
	x.mustClose(1, true)
	x.mustClose(3, true)
	for id := range 6 {
		x.mustClose(id, false)
	}
	x.mustAll()
}

// Promise 18.2.

func TestBeginWithoutSession(t *testing.T) {
	x := withOpen(t, 3)
	x.mustClose(2, true)
	for _, id := range []int{least, -1, 0, 2, 4, greatest} {
		for _, seq := range []int{least, -1, 0, 1, 2, greatest} {
			x.mustBegin(id, seq, 4)
		}
	}
}

func TestBeginAtFirst(t *testing.T) {
	x := withOpen(t, 1)
	for _, seq := range []int{least, least + 1, -2, -1} {
		x.mustBegin(1, seq, 3)
	}
	x.mustBegin(1, 0, 2)
	for _, seq := range []int{1, 2, great, great + 1, greatest - 1, greatest} { // any may be the first one
		x = withOpen(t, 1)
		x.mustBegin(1, seq, 0)
		x.mustBegin(1, seq, 2)
		x.mustBegin(1, seq-1, 3)
		x.mustBegin(1, 0, 3)
		x.mustBegin(1, -1, 3)
		x.mustBegin(1, least, 3)
		if seq < greatest {
			x.mustBegin(1, seq+1, 5)
			x.mustBegin(1, greatest, 5)
		}
	}
}

// Behind an answer to Seq 9: each seq that is asked for is asked on new sessions.
func TestBeginBehindAnAnswer(t *testing.T) {
	for _, c := range []struct{ seq, how int }{
		{least, 3}, {-9, 3}, {-1, 3}, {0, 3}, {1, 3}, {8, 3}, {10, 0}, {11, 0}, {great, 0}, {greatest - 1, 0}, {greatest, 0},
	} {
		x := withOpen(t, 2)
		x.mustBegin(1, 9, 0)
		x.mustEnd(reply(1, 9), true)
		x.mustAnswer(reply(1, 9))
		x.mustBegin(1, c.seq, c.how)
		if c.how == 0 {
			x.mustBegin(1, c.seq, 2)
			x.mustBegin(1, 9, 3) // its answer is forgotten
			x.mustEnd(reply(1, 9), false)
			x.mustEnd(reply(1, c.seq), true)
			x.mustAnswer(reply(1, c.seq))
		} else {
			x.mustAnswer(reply(1, 9))
		}
		x.mustBegin(2, 1, 0) // another session is as it was
	}
}

func TestBeginOfClosed(t *testing.T) {
	x := withOpen(t, 3)
	x.mustBegin(1, 5, 0)
	x.mustBegin(2, 6, 0)
	x.mustEnd(reply(1, 5), true)
	for id := 1; id <= 3; id++ {
		x.mustClose(id, true)
	}
	x.mustAnswer(reply(1, 5)) // the last one, answered
	x.mustBegin(1, 4, 4)
	x.mustBegin(1, 6, 4)
	x.mustBegin(1, 0, 4)
	x.mustBegin(2, 6, 4) // the last one, not answered
	x.mustBegin(2, 5, 4)
	x.mustBegin(2, 7, 4)
	x.mustBegin(3, 0, 4) // none was begun
	x.mustBegin(3, 1, 4)
	x.mustEnd(reply(2, 6), true) // a session that is not open is answered all the same
	x.mustAnswer(reply(2, 6))
	x.mustEnd(reply(3, 0), false)
	x.mustAnswer(reply(1, 5))
}

func TestEnd(t *testing.T) {
	x := withOpen(t, 3)
	for _, seq := range []int{least, -1, 0, 1, 2, greatest} {
		x.mustEnd(reply(1, seq), false) // nothing was begun
	}
	x.mustBegin(1, 5, 0)
	x.mustBegin(2, 6, 0)
	for _, id := range []int{least, -1, 0, 3, 4, greatest} {
		x.mustEnd(reply(id, 5), false)
		x.mustEnd(reply(id, 0), false)
	}
	for _, seq := range []int{least, -5, -1, 0, 1, 4, 6, greatest} {
		x.mustEnd(reply(1, seq), false)
	}
	x.mustEnd(reply(2, 5), false) // another session's Seq
	x.mustEnd(reply(1, 5), true)
	x.mustEnd(reply(1, 5), false)
	x.mustEnd(api.Reply{Session: 1, Seq: 5}, false)
	x.mustAnswer(reply(1, 5)) // the first answer stays
	x.mustBegin(2, 6, 2)
	x.mustEnd(api.Reply{Session: 2, Seq: 6}, true) // an answer may be nothing but zeros
	x.mustAnswer(api.Reply{Session: 2, Seq: 6})
	x.mustEnd(api.Reply{Session: 2, Seq: 6}, false)
	x.mustBegin(2, 7, 0)
}

// Answers of all kinds come back as they were.
func TestAnswers(t *testing.T) {
	x := withOpen(t, 2)
	seq := 0
	for _, err := range []api.Errno{0, 1, 19, 254, 255} {
		for _, token := range []uint64{0, 1, 127, 128, 1 << 63, math.MaxUint64} {
			for _, n := range []int{-great, -great + 1, -1, 0, 1, great - 1, great} {
				seq++
				r := api.Reply{Session: 2, Seq: seq, Err: err, Token: token, N: n}
				x.mustBegin(2, seq, 0)
				x.mustEnd(r, true)
				x.mustAnswer(r)
			}
		}
	}
	x.mustBegin(1, 0, 2)
}

// What is open is told rising, whatever the order of closing.
func TestAll(t *testing.T) {
	for seed := range uint64(20) {
		r := rand.New(rand.NewPCG(181, seed))
		x := withOpen(t, most)
		for _, i := range r.Perm(most) {
			if !x.close(i + 1) {
				t.Fatalf("Close(%d)", i+1)
			}
			if got, want := x.s.All(), x.p.opened(); !slices.Equal(got, want) || !slices.IsSorted(got) {
				t.Fatalf("All: %v, not %v", got, want)
			}
		}
		x.mustAll()
	}
}

func TestNil(t *testing.T) {
	var s *session.Sessions
	for _, n := range []int{least, -1, 0, 1, 7, 8, greatest} {
		for _, m := range []int{least, -1, 0, 1, 2, great, greatest} {
			if id, fresh, err := s.Open(n, m); id != 0 || fresh || err != api.ErrArg {
				t.Errorf("Open(%d, %d): %d, %t, %d", n, m, id, fresh, err)
			}
			if r, how := s.Begin(n, m); r != (api.Reply{}) || how != 4 {
				t.Errorf("Begin(%d, %d): %v, %d", n, m, r, how)
			}
			if s.End(reply(n, m)) {
				t.Errorf("End of %d, %d", n, m)
			}
		}
		if client, life, ok := s.Client(n); client != 0 || life != 0 || ok {
			t.Errorf("Client(%d): %d, %d, %t", n, client, life, ok)
		}
		if s.Close(n) {
			t.Errorf("Close(%d)", n)
		}
	}
	if all := s.All(); len(all) != 0 {
		t.Errorf("All: %v", all)
	}
	if text := s.Encode(); text != "" {
		t.Errorf("Encode: %q", text)
	}
}

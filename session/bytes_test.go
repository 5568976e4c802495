package session_test

import (
	"encoding/binary"
	"math"
	"math/rand/v2"
	"slices"
	"strings"
	"testing"

	"latchkey/api"
	"latchkey/session"
)

// Promise 18.3. All that Encode writes are numbers: so a text is told here as a row of them, each as it is written, from 0 on.

// fold gives a signed number as one from 0 on.
func fold(n int) uint64 { return uint64(n)<<1 ^ uint64(n>>63) }

func unfold(n uint64) int { return int(n>>1) ^ -int(n&1) }

func bytesOf(l []uint64) string {
	var b []byte
	for _, n := range l {
		b = binary.AppendUvarint(b, n)
	}
	return string(b)
}

func flag(b bool) int {
	if b {
		return 1
	}
	return 0
}

// rowNumbers gives what is written of the session of that id.
func rowNumbers(id int, x row) []uint64 {
	return []uint64{fold(id), fold(x.client), fold(x.life), fold(flag(x.open)), fold(x.seq), fold(flag(x.answered)), fold(int(x.answer.Err)), x.answer.Token, fold(x.answer.N)}
}

// numbersOf gives all that is written of p.
func numbersOf(p *plain) []uint64 {
	l := []uint64{fold(len(p.rows))}
	for i, x := range p.rows {
		l = append(l, rowNumbers(i+1, x)...)
	}
	count := 0
	var ends []uint64
	for client := range 8 {
		for i := len(p.rows) - 1; i >= 0; i-- {
			if p.rows[i].client == client {
				ends = append(ends, fold(client), fold(p.rows[i].life), fold(i+1))
				count++
				break
			}
		}
	}
	return append(append(l, fold(count)), ends...)
}

func textOf(p *plain) string { return bytesOf(numbersOf(p)) }

// numbers reads a text; false, if it is no row of numbers, each with as few bytes as can be.
func numbers(t string) ([]uint64, bool) {
	var l []uint64
	for b := []byte(t); len(b) > 0; {
		n, size := binary.Uvarint(b)
		if size <= 0 || size > 1 && b[size-1] == 0 {
			return nil, false
		}
		l, b = append(l, n), b[size:]
	}
	return l, true
}

// plainDecode reads the sessions of a text, and holds each of the chapter's conditions against them; nil, if one is broken.
func plainDecode(t string) *plain {
	l, ok := numbers(t)
	if !ok || len(l) == 0 || unfold(l[0]) < 0 || unfold(l[0]) > len(l)/9 {
		return nil
	}
	p, open, rest := &plain{}, 0, l[1:]
	latest := [8]int{}
	for i := range unfold(l[0]) {
		if len(rest) < 9 {
			return nil
		}
		x := row{client: unfold(rest[1]), life: unfold(rest[2]), open: unfold(rest[3]) == 1, seq: unfold(rest[4]), answered: unfold(rest[5]) == 1}
		given := api.Reply{Session: i + 1, Seq: x.seq, Err: api.Errno(unfold(rest[6])), Token: rest[7], N: unfold(rest[8])}
		switch {
		case unfold(rest[0]) != i+1, x.client < 0, x.client > 7, x.life < 1, x.life > great:
			return nil
		case unfold(rest[3]) != flag(x.open), unfold(rest[5]) != flag(x.answered):
			return nil
		case x.seq < 0, x.seq == 0 && x.answered:
			return nil
		case given.Err < 0, given.Err > 255, given.N < -great, given.N > great:
			return nil
		case !x.answered && (given.Err != 0 || given.Token != 0 || given.N != 0):
			return nil
		case x.life <= latest[x.client]:
			return nil
		}
		if x.answered {
			x.answer = given
		}
		latest[x.client] = x.life
		open += flag(x.open)
		p.rows, rest = append(p.rows, x), rest[9:]
	}
	if open > most || !slices.Equal(numbersOf(p), l) { // the clients' part, and nothing behind it
		return nil
	}
	return p
}

// mustDecode looks whether a text is read as those sessions, which go on alone.
func mustDecode(t *testing.T, what, text string, want *plain) *session.Sessions {
	t.Helper()
	s, err := session.Decode(text)
	if s == nil || err != api.OK {
		t.Fatalf("%s: Decode(%.80q): %v, %d", what, text, s, err)
	}
	mustKnow(t, what, s, want)
	return s
}

func mustNotDecode(t *testing.T, what, text string) {
	t.Helper()
	if s, err := session.Decode(text); s != nil || err != api.ErrFormat {
		t.Fatalf("%s: Decode(%.80q): %v, %d", what, text, s, err)
	}
}

func mustEncode(t *testing.T, x both, want string) {
	t.Helper()
	if got := x.s.Encode(); got != want {
		t.Fatalf("Encode: %q, not %q", got, want)
	}
	mustDecode(t, "Decode", want, x.p)
}

func TestEncode(t *testing.T) {
	x := newBoth(t)
	mustEncode(t, x, "\x00\x00")
	x.open(3, 2)
	mustEncode(t, x, "\x02"+"\x02\x06\x04\x02\x00\x00\x00\x00\x00"+"\x02"+"\x06\x04\x02")
	x.begin(1, 1)
	mustEncode(t, x, "\x02"+"\x02\x06\x04\x02\x02\x00\x00\x00\x00"+"\x02"+"\x06\x04\x02")
	x.end(api.Reply{Session: 1, Seq: 1, Err: 12, Token: 300, N: -1})
	mustEncode(t, x, "\x02"+"\x02\x06\x04\x02\x02\x02\x18\xac\x02\x01"+"\x02"+"\x06\x04\x02")
	x.close(1)
	mustEncode(t, x, "\x02"+"\x02\x06\x04\x00\x02\x02\x18\xac\x02\x01"+"\x02"+"\x06\x04\x02")
	x.open(0, 64)
	mustEncode(t, x, "\x04"+"\x02\x06\x04\x00\x02\x02\x18\xac\x02\x01"+"\x04\x00\x80\x01\x02\x00\x00\x00\x00\x00"+"\x04"+"\x00\x80\x01\x04"+"\x06\x04\x02")
	x.open(3, 3)
	mustEncode(t, x, "\x06"+"\x02\x06\x04\x00\x02\x02\x18\xac\x02\x01"+"\x04\x00\x80\x01\x02\x00\x00\x00\x00\x00"+"\x06\x06\x06\x02\x00\x00\x00\x00\x00"+"\x04"+"\x00\x80\x01\x04"+"\x06\x06\x06")
	x.begin(3, greatest)
	x.end(api.Reply{Session: 3, Seq: greatest, Token: math.MaxUint64, N: great})
	ones := strings.Repeat("\xff", 8)
	mustEncode(t, x, "\x06"+"\x02\x06\x04\x00\x02\x02\x18\xac\x02\x01"+"\x04\x00\x80\x01\x02\x00\x00\x00\x00\x00"+
		"\x06\x06\x06\x02\xfe"+ones+"\x01\x02\x00\xff"+ones+"\x01\x80\x80\x80\x80\x08"+"\x04"+"\x00\x80\x01\x04"+"\x06\x06\x06")
}

// some gives sessions of each kind: open and closed, with a Seq and without, answered and not, of one client and of several.
func some(t *testing.T) both {
	t.Helper()
	x := newBoth(t)
	for _, c := range [][2]int{{3, 1}, {0, 5}, {3, 2}, {7, 1}, {3, 9}, {1, 70}} {
		x.open(c[0], c[1])
	}
	x.begin(1, 1)
	x.end(api.Reply{Session: 1, Seq: 1, Err: api.ErrHeld})
	x.begin(2, 4)
	x.begin(3, 1)
	x.end(api.Reply{Session: 3, Seq: 1, Token: 200})
	x.begin(3, 2)
	x.begin(4, 200)
	x.end(api.Reply{Session: 4, Seq: 200, Err: 255, Token: 7, N: -64})
	x.begin(5, 3)
	x.end(api.Reply{Session: 5, Seq: 3, N: 5})
	x.close(1)
	x.close(3)
	x.close(6)
	x.mustKnow("some")
	return x
}

func TestDecodeWhatWasEncoded(t *testing.T) {
	x := some(t)
	s := mustDecode(t, "some", x.s.Encode(), x.p)
	x.mustKnow("what was encoded")
	both{t, s, x.p}.mustOpen(3, 10, 7, true, api.OK)
	x = withOpen(t, most)
	mustDecode(t, "MaxSessions", x.s.Encode(), x.p)
	for id := 1; id <= most; id++ {
		x.close(id)
	}
	for i := range most {
		x.open(i%8, i+100)
	}
	s = mustDecode(t, "MaxSessions behind others", x.s.Encode(), x.p)
	both{t, s, x.p}.mustOpen(0, great, 0, false, api.ErrFull)
}

// Each beginning, each with a byte more at an end, each with one byte out and with one byte changed to whatever: it is read only if the changed text is that of other sessions.
func TestDecodeChanged(t *testing.T) {
	good, bad := 0, 0
	check := func(text string) {
		t.Helper()
		if p := plainDecode(text); p != nil {
			good++
			mustDecode(t, "changed", text, p)
		} else {
			bad++
			mustNotDecode(t, "changed", text)
		}
	}
	for _, x := range []both{newBoth(t), withOpen(t, 1), some(t), withOpen(t, 20)} {
		text := x.s.Encode()
		for i := range text {
			mustNotDecode(t, "a beginning", text[:i])
			check(text[i+1:])
			check(text[:i] + text[i+1:])
			for c := range 256 {
				check(text[:i] + string([]byte{byte(c)}) + text[i+1:])
			}
		}
		for c := range 256 {
			mustNotDecode(t, "a byte more", text+string([]byte{byte(c)}))
			check(string([]byte{byte(c)}) + text)
		}
		mustNotDecode(t, "twice", text+text)
	}
	if good < 3000 || bad < 70000 {
		t.Fatalf("%d good, %d bad", good, bad)
	}
}

// Each number replaced by each of these, and by what stands at another place.
func TestDecodeNumbersChanged(t *testing.T) {
	values := []uint64{fold(least), fold(greatest), 1 << 63, fold(great) + 1, fold(great) + 2, fold(great), fold(-great), fold(-great) + 1, fold(-great) + 2}
	for n := range uint64(40) {
		values = append(values, n)
	}
	for _, n := range []int{-256, -255, 254, 255, 256, 257, 1 << 32, 1<<32 + 1, great - 1} {
		values = append(values, fold(n))
	}
	for _, x := range []both{some(t), withOpen(t, 10)} {
		was := numbersOf(x.p)
		good := 0
		for i := range was {
			for _, n := range append(slices.Clone(values), was...) {
				l := slices.Clone(was)
				l[i] = n
				text := bytesOf(l)
				if p := plainDecode(text); p != nil {
					good++
					mustDecode(t, "changed", text, p)
				} else {
					mustNotDecode(t, "changed", text)
				}
			}
		}
		if good < 500 {
			t.Fatalf("%d good", good)
		}
	}
}

// The places of a session's numbers.
const (
	atId = iota
	atClient
	atLife
	atOpen
	atSeq
	atAnswered
	atErr
	atToken
	atN
)

// Texts that break one condition each, and those beside them that break none. Sessions: 1 of client 3, life 5, open, Seq 9, answered; 2 of client 4, life 6, open, Seq 8, not answered; 3 of client 3, life 7, closed.
func TestDecodeConditions(t *testing.T) {
	base := func() [][]uint64 {
		answer := api.Reply{Err: 12, Token: 77, N: -5}
		return [][]uint64{
			rowNumbers(1, row{client: 3, life: 5, open: true, seq: 9, answered: true, answer: answer}),
			rowNumbers(2, row{client: 4, life: 6, open: true, seq: 8}),
			rowNumbers(3, row{client: 3, life: 7}),
		}
	}
	ends := [][3]int{{3, 7, 3}, {4, 6, 2}}
	build := func(count int, rows [][]uint64, clients int, ends [][3]int) string {
		l := []uint64{fold(count)}
		for _, x := range rows {
			l = append(l, x...)
		}
		l = append(l, fold(clients))
		for _, e := range ends {
			l = append(l, fold(e[0]), fold(e[1]), fold(e[2]))
		}
		return bytesOf(l)
	}
	read := func(what, text string, want bool) {
		t.Helper()
		p := plainDecode(text)
		if (p != nil) != want {
			t.Fatalf("%s: the test's own reading: %v", what, p)
		}
		if want {
			mustDecode(t, what, text, p)
		} else {
			mustNotDecode(t, what, text)
		}
	}
	set := func(what string, id, at, n int, want bool) { // one number of one session
		t.Helper()
		rows := base()
		rows[id-1][at] = fold(n)
		read(what, build(3, rows, 2, ends), want)
	}
	read("as it is", build(3, base(), 2, ends), true)
	for n := -2; n < 6; n++ {
		set("an id", 2, atId, n, n == 2)
		set("a client in the clients' part alone", 3, atClient, n, n == 3)
		set("whether it is open", 1, atOpen, n, n == 0 || n == 1)
		set("whether it is answered", 1, atAnswered, n, n == 1)
		set("whether it is answered, without an answer", 2, atAnswered, n, n == 0 || n == 1)
		set("a count too many or too few, at Seq", 1, atSeq, n, n > 0)
		set("a Seq that is not answered", 2, atSeq, n, n >= 0)
		read("how many sessions", build(n, base(), 2, ends), n == 3)
		read("how many clients", build(3, base(), n, ends), n == 2)
	}
	for _, n := range []int{least, -1, 0, 1, 4, 5, 6, 7, 8, greatest} {
		set("an earlier life", 1, atLife, n, 1 <= n && n < 7)
	}
	for _, n := range []int{least, -great, -1, great, great + 1, 1 << 31, 1 << 32, greatest} {
		set("a Seq", 1, atSeq, n, n > 0)
		set("an id", 1, atId, n, false)
		set("whether it is open", 1, atOpen, n, false)
		set("whether it is answered", 1, atAnswered, n, false)
		set("a client", 1, atClient, n, false)
		read("how many sessions", build(n, base(), 2, ends), false)
		read("how many clients", build(3, base(), n, ends), false)
	}
	for _, n := range []int{least, -256, -2, -1, 0, 1, 2, 254, 255, 256, 257, 1 << 32, greatest} {
		set("an Err", 1, atErr, n, 0 <= n && n <= 255)
		set("an Err without an answer", 2, atErr, n, n == 0)
	}
	for _, n := range []int{least, -great - 1, -great, -great + 1, -1, 0, 1, great - 1, great, great + 1, 1 << 32, greatest} {
		set("an N", 1, atN, n, -great <= n && n <= great)
		set("an N without an answer", 2, atN, n, n == 0)
	}
	for _, n := range []int{least, -1, 0, 1, greatest} {
		set("a token", 1, atToken, n, true)
		set("a token without an answer", 2, atToken, n, n == 0)
	}
	rows := base()
	rows[1][atSeq], rows[1][atAnswered] = 0, fold(1)
	read("Seq 0, answered", build(3, rows, 2, ends), false)
	rows[1][atSeq] = fold(-1)
	read("Seq -1, answered", build(3, rows, 2, ends), false)
	rows = base()
	read("out of order", build(3, [][]uint64{rows[1], rows[0], rows[2]}, 2, ends), false)
	read("one twice", build(4, [][]uint64{rows[0], rows[1], rows[1], rows[2]}, 2, ends), false)
	read("the last twice", build(4, append(base(), rows[2]), 2, ends), false)
	read("the second is missing", build(2, [][]uint64{rows[0], rows[2]}, 1, ends[:1]), false)
	read("the first is missing", build(2, rows[1:], 2, ends), false)
	read("the last is missing", build(2, rows[:2], 2, ends), false)
	read("without the last", build(2, rows[:2], 2, [][3]int{{3, 5, 1}, {4, 6, 2}}), true)
	read("without the last two", build(1, rows[:1], 1, [][3]int{{3, 5, 1}}), true)
	read("none", build(0, nil, 0, nil), true)
	read("none, with clients", build(0, nil, 2, ends), false)
	for what, l := range map[string][][3]int{
		"clients out of order": {ends[1], ends[0]}, "a client twice": {ends[0], ends[0], ends[1]}, "a client is missing": ends[:1], "the first client is missing": ends[1:], "no clients": nil,
		"a client more": {{0, 0, 0}, ends[0], ends[1]}, "a client more with a life": {ends[0], ends[1], {5, 1, 4}}, "a client more with a session": {ends[0], ends[1], {5, 6, 2}},
		"another client": {ends[0], {5, 6, 2}}, "another life": {{3, 8, 3}, ends[1]}, "no life": {{3, 0, 3}, ends[1]}, "another session": {{3, 7, 2}, ends[1]}, "no session": {{3, 7, 0}, ends[1]},
		"a session that is not the latest": {{3, 5, 1}, ends[1]}, "its life": {{3, 5, 3}, ends[1]}, "its id": {{3, 7, 1}, ends[1]},
	} {
		read(what, build(3, base(), len(l), l), false)
	}
}

// Each client and each life of a single session.
func TestDecodeClientsAndLives(t *testing.T) {
	for _, client := range clients {
		for _, life := range lives {
			l := append(append([]uint64{2}, rowNumbers(1, row{client: client, life: life, open: true})...), 2, fold(client), fold(life), 2)
			text := bytesOf(l)
			if client < 0 || client > 7 || life < 1 || life > great {
				mustNotDecode(t, "a client, a life", text)
				continue
			}
			mustDecode(t, "a client, a life", text, &plain{[]row{{client: client, life: life, open: true}}})
		}
	}
}

// Of each client lives rise: two sessions of each two lives, of the same client and of two.
func TestDecodeLivesRise(t *testing.T) {
	for _, other := range []int{3, 2, 4} {
		for first := range 6 {
			for second := range 6 {
				text := textOf(&plain{[]row{{client: 3, life: first}, {client: other, life: second}}})
				p := plainDecode(text)
				if want := first > 0 && second > 0 && (other != 3 || first < second); (p != nil) != want {
					t.Fatalf("%d, %d: the test's own reading: %v", first, second, p)
				} else if want {
					mustDecode(t, "lives", text, p)
				} else {
					mustNotDecode(t, "lives", text)
				}
			}
		}
	}
}

// So many open ones, with others that are closed ahead of them, between them and behind them.
func TestDecodeMaxSessions(t *testing.T) {
	for _, open := range []int{most - 1, most, most + 1, 2 * most} {
		for _, closed := range []int{0, 1, 300} {
			for _, order := range []string{"ahead", "between", "behind"} {
				p := &plain{}
				add := func(isOpen bool) {
					i := len(p.rows)
					p.rows = append(p.rows, row{client: i % 8, life: i + 1, open: isOpen})
				}
				for i := range open + closed {
					switch order {
					case "ahead":
						add(i >= closed)
					case "behind":
						add(i < open)
					default:
						add(i < open/2 || i >= open/2+closed)
					}
				}
				if open <= most {
					mustDecode(t, order, textOf(p), p)
				} else {
					mustNotDecode(t, order, textOf(p))
				}
			}
		}
	}
}

// Numbers with more bytes than they need, and with more than 64 bits, are none at whatever place.
func TestDecodeNumbersOfOtherBytes(t *testing.T) {
	l := numbersOf(some(t).p)
	for i := range l {
		ahead, behind := bytesOf(l[:i]), bytesOf(l[i+1:])
		n := binary.AppendUvarint(nil, l[i])
		n[len(n)-1] |= 128
		mustNotDecode(t, "a byte more", ahead+string(n)+"\x00"+behind)
		mustNotDecode(t, "two bytes more", ahead+string(n)+"\x80\x00"+behind)
		mustNotDecode(t, "more than 64 bits", ahead+strings.Repeat("\xff", 9)+"\x02"+behind)
		mustNotDecode(t, "more than 64 bits", ahead+strings.Repeat("\x80", 10)+"\x01"+behind)
		mustNotDecode(t, "no end", ahead+strings.Repeat("\xff", 12))
	}
}

// Texts of all kinds: short ones of each byte, and rows of small numbers.
func TestDecodeAny(t *testing.T) {
	for a := range 256 {
		for b := range 256 {
			if text := string([]byte{byte(a), byte(b)}); text == "\x00\x00" {
				mustDecode(t, "none", text, &plain{})
			} else {
				mustNotDecode(t, "two bytes", text)
			}
		}
		mustNotDecode(t, "a byte", string([]byte{byte(a)}))
	}
	mustNotDecode(t, "empty", "")
	r := rand.New(rand.NewPCG(182, 1))
	for range 200000 {
		l := make([]uint64, r.IntN(16))
		for i := range l {
			l[i] = r.Uint64N(1 << r.IntN(4))
		}
		text := bytesOf(l)
		if p := plainDecode(text); p != nil {
			mustDecode(t, "any", text, p)
		} else {
			mustNotDecode(t, "any", text)
		}
	}
}

// A text that says that many are to come ends all the same, and soon.
func TestDecodeManyToCome(t *testing.T) {
	for _, count := range []int{1, 1 << 20, 1 << 40, greatest, -1, least} {
		n := bytesOf([]uint64{fold(count)})
		mustNotDecode(t, "nothing behind it", n)
		mustNotDecode(t, "zeros behind it", n+strings.Repeat("\x00", 1000))
		mustNotDecode(t, "sessions behind it", n+some(t).s.Encode()[1:])
	}
}

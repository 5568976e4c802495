package msgs_test

import (
	"encoding/binary"
	"math"
	"math/rand/v2"
	"reflect"
	"slices"
	"strings"
	"testing"
	"unsafe"

	"latchkey/api"
	"latchkey/msgs"
)

const (
	great = 1 << 30
	high  = 1 << 40
	full  = 1 << 19 // bytes of a message
)

// field is a number of a message, with the least and the most that the chapter names for it.
type field struct {
	name        string
	least, most int
	set         func(m *api.Msg, n int)
}

var fields = []field{
	{"Kind", 1, 15, func(m *api.Msg, n int) { m.Kind = n }},
	{"From", 0, 12, func(m *api.Msg, n int) { m.From = n }},
	{"To", 0, 12, func(m *api.Msg, n int) { m.To = n }},
	{"Ballot", 0, high, func(m *api.Msg, n int) { m.Ballot = n }},
	{"Slot", -1, high, func(m *api.Msg, n int) { m.Slot = n }},
	{"Round", 0, high, func(m *api.Msg, n int) { m.Round = n }},
	{"Session", 0, great, func(m *api.Msg, n int) { m.Session = n }},
	{"Err", 0, 255, func(m *api.Msg, n int) { m.Err = api.Errno(n) }},
	{"Reply.Session", 0, great, func(m *api.Msg, n int) { m.Reply.Session = n }},
	{"Reply.Seq", 0, great, func(m *api.Msg, n int) { m.Reply.Seq = n }},
	{"Reply.Err", 0, 255, func(m *api.Msg, n int) { m.Reply.Err = api.Errno(n) }},
	{"Reply.N", 0, great, func(m *api.Msg, n int) { m.Reply.N = n }},
}

var tokens = []uint64{0, 1, 127, 128, 1<<63 - 1, 1 << 63, math.MaxUint64}

// wrongCmds may not be.
var wrongCmds = []api.Cmd{
	{Kind: 13}, {Kind: -1}, {N: 1}, {Name: "a"}, {Session: 1}, {Seq: 1},
	{Kind: api.CmdTerm}, {Kind: api.CmdTerm, N: high + 1},
	{Kind: api.CmdOpen, Session: 8, Seq: 1}, {Kind: api.CmdLock, Session: 3, Seq: 1},
	{Kind: api.CmdLock, Session: 3, Seq: 1, Name: strings.Repeat("a", 65)},
}

// wrongEntries may not be.
func wrongEntries() []api.Entry {
	l := []api.Entry{{}, {Slot: -1}, {Slot: high + 1}, {Slot: 1, Ballot: -1}, {Slot: 1, Ballot: high + 1}}
	for _, c := range wrongCmds {
		l = append(l, api.Entry{Slot: 1, Ballot: 1, Cmd: c})
	}
	return l
}

func lock(name string) api.Cmd {
	return api.Cmd{Kind: api.CmdLock, Session: 3, Seq: 1, Name: name}
}

// ordinary gives a message of each kind, such as servers and clients send, and some that have all.
func ordinary() []api.Msg {
	one := []api.Entry{{Slot: 4, Ballot: 9, Cmd: lock("a")}}
	several := []api.Entry{
		{Slot: 1, Ballot: 8, Cmd: api.Cmd{Kind: api.CmdTerm, N: 8}},
		{Slot: 2},
		{Slot: 70, Ballot: 300, Cmd: api.Cmd{Kind: api.CmdAdd, Session: 1, Seq: 2, Name: "n", N: -1}},
	}
	reply := api.Reply{Session: 3, Seq: 1, Err: api.ErrHeld, Token: 77, N: 5}
	return []api.Msg{
		{Kind: api.MsgPrepare, From: 1, To: 2, Ballot: 9, Slot: 5},
		{Kind: api.MsgPromise, From: 2, To: 1, Ballot: 9, Slot: 5, Entries: several},
		{Kind: api.MsgNack, From: 2, To: 1, Ballot: 100},
		{Kind: api.MsgAccept, From: 1, To: 2, Ballot: 9, Entries: one},
		{Kind: api.MsgAccepted, From: 2, To: 1, Ballot: 9, Slot: 4},
		{Kind: api.MsgChosen, From: 1, To: 2, Entries: one},
		{Kind: api.MsgBeat, From: 1, Ballot: 9, Round: 2},
		{Kind: api.MsgBeatOk, To: 1, Ballot: 9, Round: 2, Slot: 64},
		{Kind: api.MsgFetch, From: 4, To: 1, Slot: 17},
		{Kind: api.MsgInstall, From: 1, To: 4, Slot: 16, Text: "a snapshot\x00\xff"},
		{Kind: api.MsgAsk, From: 5, To: 1, Cmd: lock("a")},
		{Kind: api.MsgTell, From: 1, To: 5, Reply: reply},
		{Kind: api.MsgKeep, From: 12, To: 1, Session: 3, Round: 6},
		{Kind: api.MsgKept, From: 1, To: 12, Session: 3, Round: 6, Err: api.ErrSession},
		{Kind: api.MsgLeader, From: 3, To: 5, Slot: -1},
		whole(),
	}
}

// whole gives a message in which no field is 0, and all numbers have one digit.
func whole() api.Msg {
	return api.Msg{
		Kind: api.MsgTell, From: 2, To: 6, Ballot: 9, Slot: 3, Round: 4, Session: 5, Err: 7,
		Entries: []api.Entry{{Slot: 1, Ballot: 8, Cmd: lock("b")}, {Slot: 2, Ballot: 6, Cmd: lock("c")}},
		Cmd:     api.Cmd{Kind: api.CmdAdd, Session: 1, Seq: 2, Name: "n", N: 3},
		Reply:   api.Reply{Session: 11, Seq: 12, Err: 13, Token: 14, N: 15},
		Text:    "xy",
	}
}

// clone gives m with a list of its own.
func clone(m api.Msg) api.Msg {
	m.Entries = slices.Clone(m.Entries)
	return m
}

func number(n int) string { return string(binary.AppendVarint(nil, int64(n))) }

func plain(n uint64) string { return string(binary.AppendUvarint(nil, n)) }

func text(s string) string { return plain(uint64(len(s))) + s }

func writtenCmd(c api.Cmd) string {
	return number(c.Kind) + number(c.Session) + number(c.Seq) + text(c.Name) + number(c.N)
}

func writtenEntry(e api.Entry) string {
	return number(e.Slot) + number(e.Ballot) + text(writtenCmd(e.Cmd))
}

// parts gives what is written of any message, one that may not be too, by the library's means: each number, each text's length and each text's bytes apart.
func parts(m api.Msg) []string {
	var l []string
	ints := func(ns ...int) {
		for _, n := range ns {
			l = append(l, number(n))
		}
	}
	put := func(s string) { l = append(l, plain(uint64(len(s))), s) }
	ints(m.Kind, m.From, m.To, m.Ballot, m.Slot, m.Round, m.Session, int(m.Err), len(m.Entries))
	for _, e := range m.Entries {
		put(writtenEntry(e))
	}
	put(writtenCmd(m.Cmd))
	ints(m.Reply.Session, m.Reply.Seq, int(m.Reply.Err))
	l = append(l, plain(m.Reply.Token))
	ints(m.Reply.N)
	put(m.Text)
	return l
}

// Places in what parts gives.
const (
	countAt = 8 // the count of the entries
	entryAt = 9 // the length of the first one's text
)

func written(m api.Msg) string { return strings.Join(parts(m), "") }

// with gives what is written of m, but s in the place of part i.
func with(m api.Msg, i int, s string) string {
	l := parts(m)
	l[i] = s
	return strings.Join(l, "")
}

// equal holds messages against each other without Same.
func equal(a, b api.Msg) bool {
	if len(a.Entries) == 0 && len(b.Entries) == 0 {
		a.Entries, b.Entries = nil, nil
	}
	return reflect.DeepEqual(a, b)
}

func mustNotEncode(t *testing.T, what string, m api.Msg) {
	t.Helper()
	if s, e := msgs.Encode(m); s != "" || e != api.ErrArg {
		t.Errorf("%s: Encode: %.40q %d", what, s, e)
	}
}

func mustNotDecode(t *testing.T, what, s string) {
	t.Helper()
	if m, e := msgs.Decode(s); !equal(m, api.Msg{}) || e != api.ErrFormat {
		t.Errorf("%s: Decode(%.40q): %.200v %d", what, s, m, e)
	}
}

// mustNotBe asks both ways that m may not be.
func mustNotBe(t *testing.T, what string, m api.Msg) {
	t.Helper()
	mustNotEncode(t, what, m)
	mustNotDecode(t, what, written(m))
}

// mustBe asks for m's bytes, and for m of these.
func mustBe(t *testing.T, what string, m api.Msg) {
	t.Helper()
	want := written(m)
	if s, e := msgs.Encode(m); s != want || e != api.OK {
		t.Errorf("%s: Encode: %.40q %d, want %.40q", what, s, e, want)
	}
	if got, e := msgs.Decode(want); !equal(got, m) || e != api.OK {
		t.Errorf("%s: Decode(%.40q): %.200v %d", what, want, got, e)
	}
}

// Promise 4.1: Encode and Decode.

func TestBytes(t *testing.T) {
	for _, x := range []struct {
		m    api.Msg
		want string
	}{
		{
			api.Msg{Kind: 7, From: 1, Ballot: 9, Round: 2},
			"\x0e\x02\x00\x12\x00\x04\x00\x00\x00" + "\x05\x00\x00\x00\x00\x00" + "\x00\x00\x00\x00\x00\x00",
		},
		{
			api.Msg{Kind: 15, From: 3, To: 12, Slot: -1},
			"\x1e\x06\x18\x00\x01\x00\x00\x00\x00" + "\x05\x00\x00\x00\x00\x00" + "\x00\x00\x00\x00\x00\x00",
		},
		{
			api.Msg{Kind: 1, Ballot: 1 << 40, Slot: 1 << 40, Round: 64, Session: 1 << 30, Err: 255},
			"\x02\x00\x00\x80\x80\x80\x80\x80\x40\x80\x80\x80\x80\x80\x40\x80\x01\x80\x80\x80\x80\x08\xfe\x03\x00" + "\x05\x00\x00\x00\x00\x00" + "\x00\x00\x00\x00\x00\x00",
		},
		{
			whole(),
			"\x18\x04\x0c\x12\x06\x08\x0a\x0e" +
				"\x04" + "\x09\x02\x10\x06\x0a\x06\x02\x01b\x00" + "\x09\x04\x0c\x06\x0a\x06\x02\x01c\x00" +
				"\x06\x12\x02\x04\x01n\x06" +
				"\x16\x18\x1a\x0e\x1e" +
				"\x02xy",
		},
		{
			api.Msg{Kind: 12, Reply: api.Reply{Token: math.MaxUint64}},
			"\x18\x00\x00\x00\x00\x00\x00\x00\x00" + "\x05\x00\x00\x00\x00\x00" + "\x00\x00\x00\xff\xff\xff\xff\xff\xff\xff\xff\xff\x01\x00\x00",
		},
	} {
		if s, e := msgs.Encode(x.m); s != x.want || e != api.OK {
			t.Errorf("Encode(%v): %q %d, want %q", x.m, s, e, x.want)
		}
		if m, e := msgs.Decode(x.want); !equal(m, x.m) || e != api.OK {
			t.Errorf("Decode(%q): %v %d", x.want, m, e)
		}
	}
}

func TestOrdinary(t *testing.T) {
	for i, m := range ordinary() {
		if i < 15 && m.Kind != i+1 {
			t.Errorf("the kind %d stands as %d", i+1, m.Kind)
		}
		mustBe(t, "ordinary", m)
	}
}

func TestNumbersAtAndBesideEachBound(t *testing.T) {
	for _, f := range fields {
		for _, m := range ordinary() {
			for _, n := range []int{math.MinInt, -high, -great, -256, -2, -1, 0, 1, f.least - 1, f.least, f.least + 1, f.most - 1, f.most, f.most + 1, great + 1, 1<<32 + 1, high + 1, math.MaxInt} {
				m := clone(m)
				f.set(&m, n)
				if f.least <= n && n <= f.most {
					mustBe(t, f.name, m)
				} else {
					mustNotBe(t, f.name, m)
				}
			}
		}
	}
}

func TestAllAtTheirBounds(t *testing.T) {
	least, greatest := api.Msg{}, api.Msg{Reply: api.Reply{Token: math.MaxUint64}}
	for _, f := range fields {
		f.set(&least, f.least)
		f.set(&greatest, f.most)
	}
	mustBe(t, "least", least)
	mustBe(t, "greatest", greatest)
}

func TestTokens(t *testing.T) {
	for _, n := range tokens {
		m := whole()
		m.Reply.Token = n
		mustBe(t, "token", m)
	}
}

func TestEveryKindMayHaveEverything(t *testing.T) {
	for kind := 1; kind <= 15; kind++ {
		m := whole()
		m.Kind = kind
		mustBe(t, "whole", m)
		mustBe(t, "empty", api.Msg{Kind: kind})
	}
}

func TestNoEntries(t *testing.T) {
	for _, l := range [][]api.Entry{nil, {}} {
		mustBe(t, "no entries", api.Msg{Kind: 2, Entries: l})
	}
}

// The entries need not rise, and may be there twice.
func TestEntriesInAnyOrder(t *testing.T) {
	a, b := api.Entry{Slot: 5, Ballot: 2, Cmd: lock("a")}, api.Entry{Slot: 3}
	for _, l := range [][]api.Entry{{a}, {b}, {a, b}, {b, a}, {a, a}, {b, b, b}} {
		mustBe(t, "entries", api.Msg{Kind: 2, Entries: l})
	}
}

func entriesOf(n int, name string) []api.Entry {
	l := make([]api.Entry, n)
	for i := range l {
		l[i] = api.Entry{Slot: i + 1, Ballot: n, Cmd: lock(name)}
	}
	return l
}

func TestHowManyEntries(t *testing.T) {
	longest := strings.Repeat("n", 64)
	for _, n := range []int{1, 63, 64, 4095, 4096} {
		for _, name := range []string{"a", longest} {
			mustBe(t, "entries", api.Msg{Kind: 2, Entries: entriesOf(n, name)})
		}
	}
	for _, n := range []int{4097, 4098, 8192, 10000} {
		m := api.Msg{Kind: 2, Entries: entriesOf(n, "a")}
		if len(written(m)) > full {
			t.Errorf("%d entries have %d bytes, which alone may not be", n, len(written(m)))
		}
		mustNotBe(t, "entries", m)
	}
	mustNotEncode(t, "entries", api.Msg{Kind: 2, Entries: make([]api.Entry, 1<<20)})
}

func TestEntriesAtTheirBounds(t *testing.T) {
	longest := api.Cmd{Kind: api.CmdAdd, Session: great, Seq: great, Name: strings.Repeat("\xff", 64), N: -great}
	for _, e := range []api.Entry{{Slot: 1}, {Slot: 1, Ballot: high}, {Slot: high}, {Slot: high, Ballot: high, Cmd: longest}} {
		mustBe(t, "entry", api.Msg{Kind: 2, Entries: []api.Entry{{Slot: 7}, e}})
	}
}

func TestEntriesThatMayNotBe(t *testing.T) {
	for _, e := range wrongEntries() {
		for place := range 3 {
			m := api.Msg{Kind: 2, Entries: entriesOf(3, "a")}
			m.Entries[place] = e
			mustNotBe(t, "entry", m)
		}
		mustNotBe(t, "entry", api.Msg{Kind: 2, Entries: []api.Entry{e}})
	}
	m := api.Msg{Kind: 2, Entries: entriesOf(4096, "a")}
	m.Entries[4095] = api.Entry{}
	mustNotBe(t, "the last entry", m)
}

func TestCommands(t *testing.T) {
	for _, c := range []api.Cmd{
		{}, lock("a"), {Kind: api.CmdTerm, N: high}, {Kind: api.CmdOpen, Session: 7, Seq: great}, {Kind: api.CmdClose, Session: 1, Seq: 1},
		{Kind: api.CmdExpire, Session: 6, N: 17}, {Kind: api.CmdAdd, Session: 1, Seq: 2, Name: strings.Repeat("n", 64), N: -great},
	} {
		mustBe(t, "command", api.Msg{Kind: 11, Cmd: c})
	}
	for _, c := range wrongCmds {
		mustNotBe(t, "command", api.Msg{Kind: 11, Cmd: c})
	}
}

func TestTexts(t *testing.T) {
	for _, s := range []string{"", "a", "\x00", "\x80\xff", "é", strings.Repeat("x", 127), strings.Repeat("x", 128), strings.Repeat("x", 1<<16)} {
		mustBe(t, "text", api.Msg{Kind: 10, Text: s})
	}
	for _, n := range []int{full - 1, full, full + 1, 2 * full} {
		mustNotBe(t, "long text", api.Msg{Kind: 10, Text: strings.Repeat("x", n)})
	}
}

// withText gives m with such a text that its bytes are size.
func withText(t *testing.T, m api.Msg, size int) api.Msg {
	t.Helper()
	m.Text = ""
	m.Text = strings.Repeat("x", size-len(written(m))-2) // the text's length has two digits more than that of ""
	if len(written(m)) != size {
		t.Fatalf("%d bytes, want %d", len(written(m)), size)
	}
	return m
}

func TestHowManyBytes(t *testing.T) {
	for _, m := range append(ordinary(), api.Msg{Kind: 2, Entries: entriesOf(4096, "a")}) {
		mustBe(t, "bytes", withText(t, m, full-1))
		mustBe(t, "bytes", withText(t, m, full))
		mustNotBe(t, "bytes", withText(t, m, full+1))
		mustNotBe(t, "bytes", withText(t, m, full+100))
	}
}

// Promise 4.1: wrong bytes.

func TestBeginningsAndMore(t *testing.T) {
	for _, m := range ordinary() {
		s := written(m)
		for i := range len(s) {
			mustNotDecode(t, "a beginning", s[:i])
		}
		for _, behind := range []string{"\x00", "\x01", "\x80", "a", s} {
			mustNotDecode(t, "more behind", s+behind)
		}
		for i := range parts(m) {
			if parts(m)[i] != "" {
				mustNotDecode(t, "a part away", with(m, i, ""))
			}
		}
	}
	mustNotDecode(t, "nothing", "")
}

func TestBytesOfOtherThings(t *testing.T) {
	for _, s := range []string{writtenCmd(api.Cmd{}), writtenCmd(lock("a")), writtenEntry(api.Entry{Slot: 1}), "a message", strings.Repeat("\x00", 21), strings.Repeat("\x02", 21), strings.Repeat("\xff", 21), strings.Repeat("\x00", full), strings.Repeat("\x00", full+1)} {
		mustNotDecode(t, "other bytes", s)
	}
}

// numbersOf gives the places of the numbers and the texts' lengths of whole's parts: each has one digit.
func numbersOf(l []string) []int {
	places := []int{0, 1, 2, 3, 4, 5, 6, 7, countAt, entryAt, entryAt + 2, entryAt + 4}
	for i := entryAt + 6; i < len(l)-1; i++ {
		places = append(places, i)
	}
	return places
}

func TestNumbersNotSoWritten(t *testing.T) {
	m := whole()
	l := parts(m)
	places := numbersOf(l)
	if len(places) != len(l)-4 { // all but the two entries, the command and the text
		t.Fatalf("%d places of %d parts", len(places), len(l))
	}
	for _, i := range places {
		if len(l[i]) != 1 || l[i][0] >= 128 {
			t.Fatalf("part %d is %q", i, l[i])
		}
		digit := l[i][0]
		mustNotDecode(t, "one digit more than needed", with(m, i, string([]byte{digit | 128, 0})))
		mustNotDecode(t, "two digits more than needed", with(m, i, string([]byte{digit | 128, 128, 0})))
		mustNotDecode(t, "more than 64 bits", with(m, i, string([]byte{digit | 128})+strings.Repeat("\x80", 8)+"\x02"))
		mustNotDecode(t, "more digits than 64 bits have", with(m, i, string([]byte{digit | 128})+strings.Repeat("\x80", 9)+"\x01"))
	}
	for _, i := range []int{entryAt, entryAt + 2, entryAt + 4} {
		mustNotDecode(t, "within a text", withTextAt(m, i, longer(l[i+1], 0)))
		mustNotDecode(t, "within a text", withTextAt(m, i, longer(l[i+1], 1)))
	}
}

// longer gives s with a digit 0 that it does not need behind the number of one digit at place i.
func longer(s string, i int) string {
	return s[:i] + string([]byte{s[i] | 128, 0}) + s[i+1:]
}

func TestWrongCounts(t *testing.T) {
	for _, m := range []api.Msg{whole(), {Kind: 2}, {Kind: 2, Entries: entriesOf(1, "a")}, {Kind: 2, Entries: entriesOf(100, "a")}, {Kind: 2, Entries: entriesOf(4096, "a")}} {
		n := len(m.Entries)
		for _, wrong := range []int{math.MinInt, -high, -4096, -n - 1, -n, -2, -1, 0, 1, 2, n - 1, n + 1, 2 * n, 4095, 4096, 4097, 1 << 16, great, 1<<32 + n, high, math.MaxInt} {
			if wrong != n {
				mustNotDecode(t, "count", with(m, countAt, number(wrong)))
			}
		}
		for _, wrong := range []uint64{math.MaxUint64, 1 << 63, 1<<63 - 1} {
			mustNotDecode(t, "count", with(m, countAt, plain(wrong)))
		}
	}
	for _, n := range []int{-1, -2, -4096, math.MinInt} { // as if there were none: what follows is the command
		mustNotDecode(t, "count below 0", with(api.Msg{Kind: 2}, countAt, number(n)))
	}
}

// withTextAt gives what is written of m, but such a text in the place of the one whose length is part i.
func withTextAt(m api.Msg, i int, s string) string {
	l := parts(m)
	l[i], l[i+1] = plain(uint64(len(s))), s
	return strings.Join(l, "")
}

func TestTextsThatAreNone(t *testing.T) {
	m := whole()
	l := parts(m)
	for _, i := range []int{entryAt, entryAt + 2, entryAt + 4} {
		s := l[i+1]
		if withTextAt(m, i, s) != written(m) {
			t.Fatalf("part %d", i)
		}
		for n := range len(s) {
			mustNotDecode(t, "a beginning within", withTextAt(m, i, s[:n]))
		}
		for _, behind := range []string{"\x00", "\x80", "a", s} {
			mustNotDecode(t, "more behind within", withTextAt(m, i, s+behind))
		}
		mustNotDecode(t, "no such text", withTextAt(m, i, "a lock"))
		mustNotDecode(t, "no such text", withTextAt(m, i, strings.Repeat("\x00", len(s))))
		mustNotDecode(t, "a message within", withTextAt(m, i, written(m)))
		mustNotDecode(t, "no text", with(m, i, ""))
	}
	mustNotDecode(t, "a command as an entry", withTextAt(m, entryAt, writtenCmd(lock("a"))))
	mustNotDecode(t, "an entry as the command", withTextAt(m, entryAt+4, writtenEntry(m.Entries[0])))
}

func TestLengthsThatAreNone(t *testing.T) {
	m := whole()
	l := parts(m)
	for _, i := range []int{entryAt, entryAt + 2, entryAt + 4, len(l) - 2} {
		n := uint64(len(l[i+1]))
		for _, wrong := range []uint64{0, n - 1, n + 1, 127, 128, full, full + 1, 1 << 31, 1<<32 + n, 1<<63 - 1, 1 << 63, 1<<63 + n, math.MaxUint64} {
			if wrong != n {
				mustNotDecode(t, "length", with(m, i, plain(wrong)))
			}
		}
	}
}

// Promise 4.1: Same.

// mustDiffer asks both ways round, and by messages that share nothing.
func mustDiffer(t *testing.T, what string, a, b api.Msg) {
	t.Helper()
	if msgs.Same(a, b) || msgs.Same(b, a) {
		t.Errorf("%s: the same: %v and %v", what, a, b)
	}
	if !msgs.Same(a, clone(a)) || !msgs.Same(clone(b), b) {
		t.Errorf("%s: not the same as itself: %v or %v", what, a, b)
	}
}

func TestSame(t *testing.T) {
	l := ordinary()
	for i, a := range l {
		for j, b := range ordinary() {
			if got := msgs.Same(a, b); got != (i == j) {
				t.Errorf("%v and %v: %v", a, b, got)
			}
		}
	}
	if !msgs.Same(api.Msg{}, api.Msg{}) {
		t.Error("the zero message")
	}
}

func TestSameMindsEachNumber(t *testing.T) {
	for _, base := range []api.Msg{{}, whole()} {
		for _, f := range fields {
			for _, n := range []int{math.MinInt, -1, 77, 1<<32 + 77, math.MaxInt} {
				m := clone(base)
				f.set(&m, n)
				mustDiffer(t, f.name, base, m)
			}
		}
		for _, n := range []uint64{77, 1<<32 + 14, 1<<63 + 14, math.MaxUint64} {
			m := clone(base)
			m.Reply.Token = n
			mustDiffer(t, "Reply.Token", base, m)
		}
	}
}

// changedCmds gives c with one field changed, each field once.
func changedCmds(c api.Cmd) []api.Cmd {
	l := []api.Cmd{c, c, c, c, c}
	l[0].Kind++
	l[1].Session++
	l[2].Seq++
	l[3].Name += "z"
	l[4].N++
	return l
}

func TestSameMindsTheCommandAndTheText(t *testing.T) {
	for _, base := range []api.Msg{{}, whole()} {
		for _, c := range changedCmds(base.Cmd) {
			m := clone(base)
			m.Cmd = c
			mustDiffer(t, "Cmd", base, m)
		}
		for _, s := range []string{"x", "xz", "yx", "xyz", "XY", "\x00", strings.Repeat("x", full+1)} {
			m := clone(base)
			m.Text = s
			mustDiffer(t, "Text", base, m)
		}
	}
}

func TestSameMindsEachEntry(t *testing.T) {
	base := whole()
	for i := range base.Entries {
		change := func(what string, e api.Entry) {
			m := clone(base)
			m.Entries[i] = e
			mustDiffer(t, what, base, m)
		}
		e := base.Entries[i]
		change("Slot", api.Entry{Slot: 99, Ballot: e.Ballot, Cmd: e.Cmd})
		change("Ballot", api.Entry{Slot: e.Slot, Ballot: 99, Cmd: e.Cmd})
		for _, c := range changedCmds(e.Cmd) {
			change("Cmd", api.Entry{Slot: e.Slot, Ballot: e.Ballot, Cmd: c})
		}
	}
	for what, l := range map[string][]api.Entry{
		"none":      nil,
		"the first": base.Entries[:1],
		"the last":  base.Entries[1:],
		"turned":    {base.Entries[1], base.Entries[0]},
		"one more":  {base.Entries[0], base.Entries[1], {}},
		"twice":     {base.Entries[0], base.Entries[0]},
	} {
		m := base
		m.Entries = l
		mustDiffer(t, what, base, m)
	}
	mustDiffer(t, "an empty entry", api.Msg{Kind: 1}, api.Msg{Kind: 1, Entries: []api.Entry{{}}})
}

// R3, and what lies behind a list's end is not looked at.
func TestSameListsOfOtherMemory(t *testing.T) {
	a, b := api.Msg{Kind: 1}, api.Msg{Kind: 1, Entries: []api.Entry{}}
	if !msgs.Same(a, b) || !msgs.Same(b, a) {
		t.Error("nil and empty")
	}
	long := entriesOf(3, "a")
	other := entriesOf(3, "a")
	other[2].Slot = 77
	a.Entries, b.Entries = long[:2], other[:2]
	if !msgs.Same(a, b) {
		t.Error("what lies behind")
	}
	a.Entries, b.Entries = long[:0], other[1:1]
	if !msgs.Same(a, b) {
		t.Error("empty ones of some capacity")
	}
}

// R4.

func TestWhatIsHandedInStaysAsItIs(t *testing.T) {
	long := entriesOf(5, "a")
	m := whole()
	m.Entries = long[1:3]
	first, _ := msgs.Encode(m)
	second, _ := msgs.Encode(m)
	msgs.Same(m, m)
	if !reflect.DeepEqual(long, entriesOf(5, "a")) || first != second {
		t.Error("changed")
	}
	long[1].Slot = 77
	if third, _ := msgs.Encode(m); third == second {
		t.Error("kept")
	}
}

func TestWhatIsHandedOutIsNewMemory(t *testing.T) {
	m := whole()
	s := written(m)
	a, _ := msgs.Decode(s)
	b, _ := msgs.Decode(s)
	a.Entries[0].Slot = 77
	if b.Entries[0].Slot != 1 {
		t.Error("two answers share their entries")
	}
	within := func(x string) bool {
		from, at := uintptr(unsafe.Pointer(unsafe.StringData(s))), uintptr(unsafe.Pointer(unsafe.StringData(x)))
		return from <= at && at < from+uintptr(len(s))
	}
	for what, x := range map[string]string{"the text": b.Text, "the command's name": b.Cmd.Name, "an entry's name": b.Entries[0].Cmd.Name} {
		if x == "" || within(x) {
			t.Errorf("%s is a piece of what was handed in", what)
		}
	}
}

// Promise 4.2.

// randomMsg gives a message that may be; of its numbers many are at a bound.
func randomMsg(x *rand.Rand) api.Msg {
	m := api.Msg{}
	for _, f := range fields {
		n := f.least + x.IntN(f.most-f.least+1)
		switch x.IntN(4) {
		case 0:
			n = f.least
		case 1:
			n = f.most
		case 2:
			n = min(f.least+x.IntN(3), f.most)
		}
		f.set(&m, n)
	}
	m.Reply.Token = x.Uint64() >> x.IntN(64)
	for range x.IntN(4) {
		m.Entries = append(m.Entries, api.Entry{Slot: 1 + x.IntN(high), Ballot: x.IntN(high + 1), Cmd: randomCmd(x)})
	}
	m.Cmd = randomCmd(x)
	m.Text = randomText(x, x.IntN(5))
	return m
}

func randomCmd(x *rand.Rand) api.Cmd {
	switch x.IntN(4) {
	case 0:
		return api.Cmd{}
	case 1:
		return api.Cmd{Kind: api.CmdTerm, N: 1 + x.IntN(high)}
	case 2:
		return api.Cmd{Kind: api.CmdAdd, Session: 1 + x.IntN(great), Seq: 1 + x.IntN(9), Name: randomText(x, 1+x.IntN(64)), N: x.IntN(2*great+1) - great}
	}
	return api.Cmd{Kind: api.CmdLock, Session: 1 + x.IntN(9), Seq: 1 + x.IntN(great), Name: randomText(x, 1)}
}

func randomText(x *rand.Rand, size int) string {
	b := make([]byte, size)
	for i := range b {
		b[i] = byte(x.IntN(256))
	}
	return string(b)
}

func TestThereAndBack(t *testing.T) {
	x := rand.New(rand.NewPCG(4, 2))
	whose := map[string]api.Msg{}
	for range 20000 {
		m := randomMsg(x)
		s, e := msgs.Encode(m)
		got, f := msgs.Decode(s)
		if e != api.OK || f != api.OK || !equal(got, m) || !msgs.Same(got, m) || s != written(m) {
			t.Fatalf("%v: %q %d %v %d", m, s, e, got, f)
		}
		if other, ok := whose[s]; ok && !equal(m, other) {
			t.Fatalf("%v and %v: %q", m, other, s)
		}
		whose[s] = m
	}
}

// Messages that differ in one field alone have other bytes.
func TestEachHasBytesOfItsOwn(t *testing.T) {
	whose := map[string]string{}
	put := func(what string, m api.Msg) {
		t.Helper()
		s, e := msgs.Encode(m)
		if e != api.OK {
			t.Fatalf("%s: %v: %d", what, m, e)
		}
		if other, ok := whose[s]; ok {
			t.Fatalf("%s and %s: %q", what, other, s)
		}
		whose[s] = what
	}
	put("whole", whole())
	for _, f := range fields {
		for _, n := range []int{f.least, f.most} {
			m := whole()
			f.set(&m, n)
			put(f.name, m)
		}
	}
	for _, n := range tokens {
		m := whole()
		m.Reply.Token = n
		put("Reply.Token", m)
	}
	for _, s := range []string{"", "\x00", "x", "yx"} {
		m := whole()
		m.Text = s
		put("Text", m)
		m = whole()
		m.Entries[1].Cmd.Name += "z" + s
		put("an entry's name", m)
		m = whole()
		m.Cmd.Name += "z" + s
		put("the command's name", m)
	}
	for n := range 4 {
		m := whole()
		m.Entries = entriesOf(n, "a")
		put("how many entries", m)
	}
}

// What is read at all is read as it is written: no bytes beside a message's own stand for it.
func TestOnlyItsOwnBytes(t *testing.T) {
	x := rand.New(rand.NewPCG(4, 1))
	read, l := 0, ordinary()
	for range 200000 {
		b := []byte(written(l[x.IntN(len(l))]))
		for range 1 + x.IntN(2) {
			b[x.IntN(len(b))] = byte(x.IntN(256))
		}
		s := string(b)
		m, e := msgs.Decode(s)
		if e != api.OK {
			mustNotDecode(t, "turned bytes", s)
			continue
		}
		read++
		if back, f := msgs.Encode(m); back != s || f != api.OK || written(m) != s {
			t.Fatalf("Decode(%q): %v, whose bytes are %q %d", s, m, back, f)
		}
	}
	if read == 0 {
		t.Error("none was read")
	}
}

func FuzzDecode(f *testing.F) {
	for _, m := range ordinary() {
		f.Add(written(m))
	}
	f.Fuzz(func(t *testing.T, s string) {
		m, e := msgs.Decode(s)
		if e != api.OK {
			mustNotDecode(t, "bytes", s)
			return
		}
		if back, f := msgs.Encode(m); back != s || f != api.OK {
			t.Errorf("Decode(%q): %v, whose bytes are %q %d", s, m, back, f)
		}
	})
}

package wal_test

import (
	"encoding/binary"
	"math"
	"math/rand/v2"
	"strings"
	"testing"
	"unsafe"

	"latchkey/api"
	"latchkey/wal"
)

const high = 1 << 40 // the greatest ballot, the greatest slot

// ints stand at and beside each bound of a record's numbers.
var ints = []int{math.MinInt, math.MinInt + 1, -high - 1, -high, -256, -2, -1, 0, 1, 2, 9, 127, 128, 255, 256, 258, 65536, 1 << 31, 1 << 32, high - 1, high, high + 1, 1 << 41, 1 << 56, math.MaxInt - 1, math.MaxInt}

func promise(n int) api.Rec { return api.Rec{Kind: api.RecPromise, N: n} }

func accept(slot, ballot int, c api.Cmd) api.Rec {
	return api.Rec{Kind: api.RecAccept, Entry: api.Entry{Slot: slot, Ballot: ballot, Cmd: c}}
}

// commands has one of each kind, and names of the least and the most bytes.
func commands() []api.Cmd {
	l := []api.Cmd{
		{}, {Kind: api.CmdTerm, N: 9}, {Kind: api.CmdOpen, Session: 7, Seq: 1}, {Kind: api.CmdClose, Session: 64, Seq: 2}, {Kind: api.CmdExpire, Session: 1, N: high},
		{Kind: api.CmdAdd, Session: 1, Seq: 2, Name: "n", N: -api.MaxCount}, {Kind: api.CmdLock, Session: 1 << 30, Seq: 1 << 30, Name: strings.Repeat("\xff", api.MaxName)},
	}
	for _, kind := range []int{api.CmdLock, api.CmdUnlock, api.CmdRLock, api.CmdRUnlock, api.CmdWait, api.CmdOnce, api.CmdDone} {
		l = append(l, api.Cmd{Kind: kind, Session: 3, Seq: 1, Name: "a"})
	}
	return l
}

// wrongCommands may not be.
var wrongCommands = []api.Cmd{{Kind: 13}, {Kind: -1}, {N: 1}, {Kind: api.CmdTerm}, {Kind: api.CmdLock, Session: 3, Seq: 1}, {Kind: api.CmdLock, Session: 3, Seq: 1, Name: strings.Repeat("a", api.MaxName+1)}}

// promiseText gives the bytes of a promise of any number.
func promiseText(n uint64) string {
	return string(binary.LittleEndian.AppendUint64([]byte{1}, n))
}

// acceptText gives the bytes of an accept of any numbers and any command.
func acceptText(slot, ballot int, c api.Cmd) string {
	b := binary.AppendVarint(nil, int64(c.Kind))
	b = binary.AppendVarint(b, int64(c.Session))
	b = binary.AppendVarint(b, int64(c.Seq))
	b = binary.AppendUvarint(b, uint64(len(c.Name)))
	b = append(b, c.Name...)
	b = binary.AppendVarint(b, int64(c.N))
	return acceptOf(slot, ballot, string(b))
}

// acceptOf gives the bytes of an accept whose command's text is any.
func acceptOf(slot, ballot int, text string) string {
	b := binary.AppendVarint([]byte{2}, int64(slot))
	b = binary.AppendVarint(b, int64(ballot))
	b = binary.AppendUvarint(b, uint64(len(text)))
	return string(append(b, text...))
}

// textOf gives the bytes of a record as the chapter tells them.
func textOf(r api.Rec) string {
	if r.Kind == api.RecPromise {
		return promiseText(uint64(r.N))
	}
	return acceptText(r.Entry.Slot, r.Entry.Ballot, r.Entry.Cmd)
}

// someRecs are records of all kinds, no two of them the same.
func someRecs() []api.Rec {
	l := []api.Rec{promise(1), promise(9), promise(258), promise(high - 1), promise(high)}
	for i, c := range commands() {
		l = append(l, accept(i+1, 9, c), accept(high, i+1, c), accept(1, high-i, c))
	}
	return l
}

// wrongRecs are none, each of them by one field or two.
func wrongRecs() []api.Rec {
	entry := api.Entry{Slot: 3, Ballot: 17}
	l := []api.Rec{
		{}, promise(0), promise(-1), promise(high + 1), promise(math.MinInt), promise(math.MaxInt),
		{N: 1}, {Entry: entry}, {Kind: 3}, {Kind: 3, N: 1}, {Kind: 3, Entry: entry}, {Kind: -1, N: 1}, {Kind: 257, N: 1}, {Kind: 258, Entry: entry}, {Kind: math.MaxInt, N: 1}, {Kind: math.MinInt, Entry: entry},
		{Kind: api.RecPromise, N: 9, Entry: entry}, {Kind: api.RecPromise, N: 9, Entry: api.Entry{Slot: 1}}, {Kind: api.RecPromise, N: 9, Entry: api.Entry{Ballot: 1}},
		{Kind: api.RecPromise, N: 9, Entry: api.Entry{Cmd: api.Cmd{Kind: 1}}}, {Kind: api.RecPromise, N: 9, Entry: api.Entry{Cmd: api.Cmd{Session: 1}}}, {Kind: api.RecPromise, N: 9, Entry: api.Entry{Cmd: api.Cmd{Seq: 1}}},
		{Kind: api.RecPromise, N: 9, Entry: api.Entry{Cmd: api.Cmd{Name: "a"}}}, {Kind: api.RecPromise, N: 9, Entry: api.Entry{Cmd: api.Cmd{N: -1}}}, {Kind: api.RecPromise, Entry: entry},
		{Kind: api.RecAccept}, {Kind: api.RecAccept, N: 1}, {Kind: api.RecAccept, N: 1, Entry: entry}, {Kind: api.RecAccept, N: -1, Entry: entry}, {Kind: api.RecAccept, N: 17, Entry: entry}, {Kind: api.RecAccept, N: math.MinInt, Entry: entry}, {Kind: api.RecAccept, N: math.MaxInt, Entry: entry},
		accept(3, 0, api.Cmd{}), accept(3, -1, api.Cmd{}), accept(3, high+1, api.Cmd{}), accept(3, math.MinInt, api.Cmd{}), accept(3, math.MaxInt, api.Cmd{}),
		accept(0, 17, api.Cmd{}), accept(-1, 17, api.Cmd{}), accept(high+1, 17, api.Cmd{}), accept(math.MinInt, 17, api.Cmd{}), accept(math.MaxInt, 17, api.Cmd{}),
	}
	for _, c := range wrongCommands {
		l = append(l, accept(3, 17, c))
	}
	return l
}

func mustEncode(t *testing.T, r api.Rec, want string) {
	t.Helper()
	if s, err := wal.EncodeRec(r); s != want || err != api.OK {
		t.Errorf("EncodeRec(%+v): %q %d, want %q", r, s, err, want)
	}
	if got, err := wal.DecodeRec(want); got != r || err != api.OK {
		t.Errorf("DecodeRec(%q): %+v %d, want %+v", want, got, err, r)
	}
}

func mustNotEncode(t *testing.T, r api.Rec) {
	t.Helper()
	if s, err := wal.EncodeRec(r); s != "" || err != api.ErrArg {
		t.Errorf("EncodeRec(%+v): %q %d, want ErrArg", r, s, err)
	}
}

func mustNotDecode(t *testing.T, what, s string) {
	t.Helper()
	if r, err := wal.DecodeRec(s); r != (api.Rec{}) || err != api.ErrFormat {
		t.Errorf("%s: DecodeRec(%.40q): %+v %d, want ErrFormat", what, s, r, err)
	}
}

// Promise 11.1.

func TestRecBytes(t *testing.T) {
	mustEncode(t, promise(1), "\x01\x01\x00\x00\x00\x00\x00\x00\x00")
	mustEncode(t, promise(9), "\x01\x09\x00\x00\x00\x00\x00\x00\x00")
	mustEncode(t, promise(258), "\x01\x02\x01\x00\x00\x00\x00\x00\x00")
	mustEncode(t, promise(0x9abcdef012), "\x01\x12\xf0\xde\xbc\x9a\x00\x00\x00")
	mustEncode(t, promise(high-1), "\x01\xff\xff\xff\xff\xff\x00\x00\x00")
	mustEncode(t, promise(high), "\x01\x00\x00\x00\x00\x00\x01\x00\x00")
	mustEncode(t, accept(1, 9, api.Cmd{Kind: api.CmdTerm, N: 9}), "\x02\x02\x12\x05\x02\x00\x00\x00\x12")
	mustEncode(t, accept(64, 1, api.Cmd{}), "\x02\x80\x01\x02\x05\x00\x00\x00\x00\x00")
	mustEncode(t, accept(1<<40, 1, api.Cmd{Kind: api.CmdLock, Session: 3, Seq: 1, Name: "a"}), "\x02\x80\x80\x80\x80\x80\x40\x02\x06\x0a\x06\x02\x01a\x00")
}

func TestPromisesAtAndBesideEachBound(t *testing.T) {
	for _, n := range ints {
		if 1 <= n && n <= high {
			mustEncode(t, promise(n), promiseText(uint64(n)))
		} else {
			mustNotEncode(t, promise(n))
			mustNotDecode(t, "no ballot", promiseText(uint64(n)))
		}
		for _, e := range []api.Entry{{Slot: 3, Ballot: 17}, {Ballot: n, Slot: 1}, {Slot: 1}, {Cmd: api.Cmd{Name: "a"}}} {
			mustNotEncode(t, api.Rec{Kind: api.RecPromise, N: n, Entry: e})
		}
	}
}

func TestAcceptsAtAndBesideEachBound(t *testing.T) {
	for _, slot := range ints {
		for _, ballot := range ints {
			for _, c := range commands() {
				r, s := accept(slot, ballot, c), acceptText(slot, ballot, c)
				if 1 <= slot && slot <= high && 1 <= ballot && ballot <= high {
					mustEncode(t, r, s)
				} else {
					mustNotEncode(t, r)
					mustNotDecode(t, "no entry", s)
				}
			}
			for _, c := range wrongCommands {
				mustNotEncode(t, accept(slot, ballot, c))
				mustNotDecode(t, "no command", acceptText(slot, ballot, c))
			}
		}
	}
}

func TestAcceptsHaveNoNumber(t *testing.T) {
	for _, n := range ints {
		r := accept(3, 17, api.Cmd{})
		r.N = n
		if n == 0 {
			mustEncode(t, r, acceptText(3, 17, api.Cmd{}))
		} else {
			mustNotEncode(t, r)
		}
	}
}

func TestOtherKindsAreNoRecords(t *testing.T) {
	for _, kind := range append(ints, 3, 4, 257) {
		if kind == api.RecPromise || kind == api.RecAccept {
			continue
		}
		for _, r := range []api.Rec{promise(9), accept(3, 17, api.Cmd{}), {}} {
			r.Kind = kind
			mustNotEncode(t, r)
		}
	}
	mustNotEncode(t, api.Rec{Kind: api.RecPromise, Entry: api.Entry{Slot: 3, Ballot: 17}})
	mustNotEncode(t, api.Rec{Kind: api.RecAccept, N: 9})
}

func TestWrongRecs(t *testing.T) {
	for _, r := range wrongRecs() {
		mustNotEncode(t, r)
	}
}

func TestNoTextOfARecord(t *testing.T) {
	mustNotDecode(t, "no bytes", "")
	for _, r := range someRecs() {
		s := textOf(r)
		mustEncode(t, r, s)
		for i := range len(s) {
			mustNotDecode(t, "a beginning", s[:i])
		}
		for _, behind := range []string{"\x00", "\x01", "\x80", "\xff", s} {
			mustNotDecode(t, "more behind", s+behind)
		}
		for first := range 256 {
			if first != api.RecPromise && first != api.RecAccept {
				mustNotDecode(t, "another first byte", string([]byte{byte(first)})+s[1:])
			}
		}
		mustNotDecode(t, "without its first byte", s[1:])
	}
	for _, s := range []string{"\x01", "\x02", "\x00", strings.Repeat("\x00", 9), strings.Repeat("\x01", 8), strings.Repeat("\xff", 9), strings.Repeat("\x02", 100), strings.Repeat("\x01", 1<<20)} {
		mustNotDecode(t, "no record", s)
	}
}

// A ballot of 8 bytes may be past the limit in any of them.
func TestPromisesPastTheLimit(t *testing.T) {
	for _, n := range []uint64{0, high + 1, high + 2, high << 1, high | 1<<48, 1 << 48, 1<<48 | 9, 1<<56 | 9, 1<<62 | 9, 1 << 63, 1<<63 | 1, 1<<63 | 9, 1<<63 + high, 1<<64 - high, 1<<64 - 9, 1<<64 - 1} {
		mustNotDecode(t, "past the limit", promiseText(n))
	}
	for bit := range 64 {
		n := uint64(1) << bit
		if n <= high {
			mustEncode(t, promise(int(n)), promiseText(n))
		} else {
			mustNotDecode(t, "past the limit", promiseText(n))
			mustNotDecode(t, "past the limit", promiseText(n|9))
		}
	}
}

func TestAcceptsOfNoEntry(t *testing.T) {
	none := strings.Repeat("\x00", 5)
	for _, s := range []string{
		acceptOf(1, 9, ""), acceptOf(1, 9, none+"\x00"), acceptOf(1, 9, none[1:]), acceptOf(1, 9, "a lock"), "\x02" + none, "\x02\x02\x12" + none,
		"\x02\x82\x00\x12\x05" + none, "\x02\x02\x92\x00\x05" + none, "\x02\x02\x12\x85\x00" + none, "\x02\x02" + strings.Repeat("\x80", 9) + "\x02\x05" + none,
		acceptOf(1, 0, none), acceptOf(1, -1, none), acceptOf(0, 1, none),
	} {
		mustNotDecode(t, "no entry", s)
	}
	mustEncode(t, accept(1, 1, api.Cmd{}), acceptOf(1, 1, none))
}

// What is read at all is read as it is written: each record has bytes of its own, and no others stand for it.
func TestOnlyItsOwnBytes(t *testing.T) {
	whose := map[string]api.Rec{}
	for _, r := range someRecs() {
		s, _ := wal.EncodeRec(r)
		if other, there := whose[s]; there {
			t.Fatalf("%+v and %+v: %q", r, other, s)
		}
		whose[s] = r
	}
	x := rand.New(rand.NewPCG(11, 1))
	read, l := 0, someRecs()
	for range 200000 {
		b := []byte(textOf(l[x.IntN(len(l))]))
		for range 1 + x.IntN(2) {
			b[x.IntN(len(b))] = byte(x.IntN(256))
		}
		r, err := wal.DecodeRec(string(b))
		if err != api.OK {
			mustNotDecode(t, "turned bytes", string(b))
			continue
		}
		read++
		if s, back := wal.EncodeRec(r); s != string(b) || back != api.OK {
			t.Fatalf("DecodeRec(%q): %+v, whose bytes are %q %d", b, r, s, back)
		}
	}
	if read == 0 {
		t.Error("none was read")
	}
}

// R4: a name that is handed out is no piece of what was handed in.
func TestRecNamesAreNewMemory(t *testing.T) {
	s := acceptText(1, 9, api.Cmd{Kind: api.CmdLock, Session: 3, Seq: 1, Name: "abc"})
	r, _ := wal.DecodeRec(s)
	at := strings.Index(s, "abc")
	if r.Entry.Cmd.Name != "abc" || unsafe.StringData(r.Entry.Cmd.Name) == unsafe.StringData(s[at:]) {
		t.Errorf("%+v", r)
	}
}

func FuzzDecodeRec(f *testing.F) {
	for _, r := range someRecs() {
		f.Add(textOf(r))
	}
	f.Fuzz(func(t *testing.T, s string) {
		r, err := wal.DecodeRec(s)
		if err != api.OK {
			mustNotDecode(t, "no record", s)
		} else if back, err := wal.EncodeRec(r); back != s || err != api.OK {
			t.Errorf("DecodeRec(%q): %+v, whose bytes are %q %d", s, r, back, err)
		}
	})
}

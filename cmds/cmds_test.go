package cmds_test

import (
	"encoding/binary"
	"math"
	"math/rand/v2"
	"strings"
	"testing"
	"unsafe"

	"latchkey/api"
	"latchkey/cmds"
)

// bounds holds the least and the most that the chapter names for each field of a kind; of the name they are its length's.
type bounds struct {
	session, seq, name, n [2]int
}

const (
	great = 1 << 30
	high  = 1 << 40
)

// rules holds the chapter's list of kinds, in numbers of its own.
var rules = map[int]bounds{
	0:  {},
	1:  {n: [2]int{1, high}},
	2:  {session: [2]int{0, 7}, seq: [2]int{1, great}},
	3:  {session: [2]int{1, great}, seq: [2]int{1, great}},
	4:  {session: [2]int{1, great}, n: [2]int{1, high}},
	5:  named,
	6:  named,
	7:  named,
	8:  named,
	9:  {session: [2]int{1, great}, seq: [2]int{1, great}, name: [2]int{1, 64}, n: [2]int{-great, great}},
	10: named,
	11: named,
	12: named,
}

var named = bounds{session: [2]int{1, great}, seq: [2]int{1, great}, name: [2]int{1, 64}}

func within(b [2]int, n int) bool { return b[0] <= n && n <= b[1] }

func mayBe(c api.Cmd) bool {
	b, known := rules[c.Kind]
	return known && within(b.session, c.Session) && within(b.seq, c.Seq) && within(b.name, len(c.Name)) && within(b.n, c.N)
}

// ints holds each bound of the chapter and of int, with what lies beside it.
var ints = []int{math.MinInt, -high, -great - 1, -great, -1, 0, 1, 7, 8, great, great + 1, 1<<32 + 1, high, high + 1, math.MaxInt}

var names = []string{"", "a", "\x00\xff", strings.Repeat("n", 64), strings.Repeat("n", 65), strings.Repeat("é", 33)}

var kinds = []int{math.MinInt, -5, -1, 0, 1, 2, 3, 4, 5, 6, 7, 8, 9, 10, 11, 12, 13, 256 + 5, 1<<32 + 5, math.MaxInt}

// all gives commands of all kinds with every field at every bound and beside it, those that may be and those that may not.
func all(yield func(c api.Cmd) bool) {
	ofKind := func(kind int) bool {
		for _, session := range ints {
			for _, seq := range ints {
				for _, name := range names {
					for _, n := range ints {
						if !yield(api.Cmd{Kind: kind, Session: session, Seq: seq, Name: name, N: n}) {
							return false
						}
					}
				}
			}
		}
		return true
	}
	for _, kind := range kinds {
		if !ofKind(kind) {
			return
		}
	}
}

// good gives those of all that may be.
func good() []api.Cmd {
	var l []api.Cmd
	for c := range all {
		if mayBe(c) {
			l = append(l, c)
		}
	}
	return l
}

// ordinary gives one command of each kind.
func ordinary() []api.Cmd {
	return []api.Cmd{
		{},
		{Kind: api.CmdTerm, N: 9},
		{Kind: api.CmdOpen, Session: 3, Seq: 2},
		{Kind: api.CmdClose, Session: 4, Seq: 5},
		{Kind: api.CmdExpire, Session: 6, N: 17},
		{Kind: api.CmdLock, Session: 3, Seq: 1, Name: "a"},
		{Kind: api.CmdUnlock, Session: 300, Seq: 2, Name: "ab"},
		{Kind: api.CmdRLock, Session: 3, Seq: 1000, Name: "abc"},
		{Kind: api.CmdRUnlock, Session: 64, Seq: 65, Name: "a b"},
		{Kind: api.CmdAdd, Session: 1, Seq: 2, Name: "n", N: -1},
		{Kind: api.CmdWait, Session: 1, Seq: 3, Name: "n"},
		{Kind: api.CmdOnce, Session: 70000, Seq: 4, Name: strings.Repeat("o", 64)},
		{Kind: api.CmdDone, Session: 8, Seq: 80000, Name: "\x00"},
	}
}

// written gives the bytes of any command, one that may not be too, by the library's means.
func written(c api.Cmd) string {
	b := binary.AppendVarint(nil, int64(c.Kind))
	b = binary.AppendVarint(b, int64(c.Session))
	b = binary.AppendVarint(b, int64(c.Seq))
	b = binary.AppendUvarint(b, uint64(len(c.Name)))
	b = append(b, c.Name...)
	return string(binary.AppendVarint(b, int64(c.N)))
}

// writtenEntry gives the bytes of an entry whose command's text is any.
func writtenEntry(slot, ballot int, text string) string {
	b := binary.AppendVarint(nil, int64(slot))
	b = binary.AppendVarint(b, int64(ballot))
	b = binary.AppendUvarint(b, uint64(len(text)))
	return string(append(b, text...))
}

func mustNotDecode(t *testing.T, what, s string) {
	t.Helper()
	if c, e := cmds.Decode(s); c != (api.Cmd{}) || e != api.ErrFormat {
		t.Errorf("%s: Decode(%.40q): %#v %d", what, s, c, e)
	}
}

func mustNotDecodeEntry(t *testing.T, what, s string) {
	t.Helper()
	if got, e := cmds.DecodeEntry(s); got != (api.Entry{}) || e != api.ErrFormat {
		t.Errorf("%s: DecodeEntry(%.40q): %#v %d", what, s, got, e)
	}
}

// Promise 3.1.

func TestCheckOrdinary(t *testing.T) {
	for kind, c := range ordinary() {
		if c.Kind != kind {
			t.Errorf("the kind %d stands as %d", kind, c.Kind)
		}
		if e := cmds.Check(c); e != api.OK {
			t.Errorf("Check(%#v): %d", c, e)
		}
	}
}

func TestCheckAtAndBesideEachBound(t *testing.T) {
	for c := range all {
		want := api.ErrArg
		if mayBe(c) {
			want = api.OK
		}
		if e := cmds.Check(c); e != want {
			t.Fatalf("Check(%#v): %d, want %d", c, e, want)
		}
	}
}

// Each of them is one field away from one that may be.
func TestCheckWrong(t *testing.T) {
	for _, c := range []api.Cmd{
		{Kind: 13}, {Kind: -1}, {Session: 1}, {Seq: 1}, {Name: "a"}, {N: 1}, {N: -1},
		{Kind: api.CmdTerm}, {Kind: api.CmdTerm, N: -1}, {Kind: api.CmdTerm, N: api.MaxBallot + 1}, {Kind: api.CmdTerm, N: 9, Session: 1},
		{Kind: api.CmdExpire, N: 9}, {Kind: api.CmdExpire, Session: 1}, {Kind: api.CmdExpire, Session: 1, N: 9, Seq: 1}, {Kind: api.CmdExpire, Session: great + 1, N: 9},
		{Kind: api.CmdOpen, Session: api.MaxClients, Seq: 1}, {Kind: api.CmdOpen, Session: -1, Seq: 1}, {Kind: api.CmdOpen, Session: 1}, {Kind: api.CmdOpen, Session: 1, Seq: great + 1},
		{Kind: api.CmdClose, Seq: 1}, {Kind: api.CmdClose, Session: 1}, {Kind: api.CmdClose, Session: 1, Seq: 1, Name: "a"}, {Kind: api.CmdClose, Session: 1, Seq: 1, N: 1},
		{Kind: api.CmdLock, Session: 3, Seq: 1}, {Kind: api.CmdLock, Session: 3, Seq: 1, Name: strings.Repeat("a", api.MaxName+1)}, {Kind: api.CmdLock, Session: 3, Seq: 1, Name: "a", N: 1},
		{Kind: api.CmdAdd, Session: 3, Seq: 1, Name: "a", N: api.MaxCount + 1}, {Kind: api.CmdAdd, Session: 3, Seq: 1, Name: "a", N: -api.MaxCount - 1}, {Kind: api.CmdAdd, Session: 3, Seq: 1, N: 1},
	} {
		if e := cmds.Check(c); e != api.ErrArg {
			t.Errorf("Check(%#v): %d", c, e)
		}
		if s, e := cmds.Encode(c); s != "" || e != api.ErrArg {
			t.Errorf("Encode(%#v): %q %d", c, s, e)
		}
		mustNotDecode(t, "may not be", written(c))
	}
}

func TestEncodeBytes(t *testing.T) {
	for _, x := range []struct {
		c    api.Cmd
		want string
	}{
		{api.Cmd{}, "\x00\x00\x00\x00\x00"},
		{api.Cmd{Kind: api.CmdTerm, N: 9}, "\x02\x00\x00\x00\x12"},
		{api.Cmd{Kind: api.CmdOpen, Session: 7, Seq: 1}, "\x04\x0e\x02\x00\x00"},
		{api.Cmd{Kind: api.CmdClose, Session: 64, Seq: 2}, "\x06\x80\x01\x04\x00\x00"},
		{api.Cmd{Kind: api.CmdExpire, Session: 1, N: 1 << 40}, "\x08\x02\x00\x00\x80\x80\x80\x80\x80\x40"},
		{api.Cmd{Kind: api.CmdLock, Session: 3, Seq: 1, Name: "a"}, "\x0a\x06\x02\x01a\x00"},
		{api.Cmd{Kind: api.CmdAdd, Session: 1, Seq: 2, Name: "n", N: -1}, "\x12\x02\x04\x01n\x01"},
		{api.Cmd{Kind: api.CmdDone, Session: 1, Seq: 1 << 30, Name: "\x00\xff"}, "\x18\x02\x80\x80\x80\x80\x08\x02\x00\xff\x00"},
	} {
		if s, e := cmds.Encode(x.c); s != x.want || e != api.OK {
			t.Errorf("Encode(%#v): %q %d, want %q", x.c, s, e, x.want)
		}
	}
}

func TestEncodeAndDecodeAtAndBesideEachBound(t *testing.T) {
	for c := range all {
		bytes := written(c)
		wantText, wantErr, wantCmd, wantBack := "", api.ErrArg, api.Cmd{}, api.ErrFormat
		if mayBe(c) {
			wantText, wantErr, wantCmd, wantBack = bytes, api.OK, c, api.OK
		}
		if s, e := cmds.Encode(c); s != wantText || e != wantErr {
			t.Fatalf("Encode(%#v): %q %d, want %q %d", c, s, e, wantText, wantErr)
		}
		if got, e := cmds.Decode(bytes); got != wantCmd || e != wantBack {
			t.Fatalf("Decode(%q): %#v %d, want %#v %d", bytes, got, e, wantCmd, wantBack)
		}
	}
}

func TestDecodeBeginningsAndMore(t *testing.T) {
	for _, c := range ordinary() {
		s := written(c)
		for i := range len(s) {
			mustNotDecode(t, "a beginning", s[:i])
		}
		for _, behind := range []string{"\x00", "\x01", "\x80", "a", s} {
			mustNotDecode(t, "more behind", s+behind)
		}
	}
}

// numberAt gives s with the number's last digit, at place i, followed by a digit 0 that it does not need.
func numberAt(s string, i int) string {
	return s[:i] + string([]byte{s[i] | 128, 0}) + s[i+1:]
}

func TestDecodeNumbersNotSoWritten(t *testing.T) {
	s := "\x12\x02\x04\x01n\x01" // add; all numbers have one digit
	if _, e := cmds.Decode(s); e != api.OK {
		t.Fatalf("%d", e)
	}
	for _, i := range []int{0, 1, 2, 3, 5} {
		mustNotDecode(t, "more bytes than needed", numberAt(s, i))
		mustNotDecode(t, "more than 64 bits", s[:i]+strings.Repeat("\x80", 9)+"\x02"+s[i+1:])
	}
	e := "\x02\x12\x06" + s
	if _, err := cmds.DecodeEntry(e); err != api.OK {
		t.Fatalf("%d", err)
	}
	for _, i := range []int{0, 1, 2} {
		mustNotDecodeEntry(t, "more bytes than needed", numberAt(e, i))
		mustNotDecodeEntry(t, "more than 64 bits", e[:i]+strings.Repeat("\x80", 9)+"\x02"+e[i+1:])
	}
	mustNotDecodeEntry(t, "within the command", writtenEntry(1, 9, numberAt(s, 1)))
}

func TestDecodeLongNames(t *testing.T) {
	for _, n := range []int{65, 128, 1000, api.MaxText, api.MaxText + 1} {
		mustNotDecode(t, "a long name", written(api.Cmd{Kind: api.CmdLock, Session: 3, Seq: 1, Name: strings.Repeat("a", n)}))
	}
}

func TestEntryBytes(t *testing.T) {
	for _, x := range []struct {
		e    api.Entry
		want string
	}{
		{api.Entry{Slot: 1, Ballot: 9, Cmd: api.Cmd{Kind: api.CmdTerm, N: 9}}, "\x02\x12\x05\x02\x00\x00\x00\x12"},
		{api.Entry{Slot: 64}, "\x80\x01\x00\x05\x00\x00\x00\x00\x00"},
		{api.Entry{Slot: 1 << 40, Ballot: 1, Cmd: api.Cmd{Kind: api.CmdLock, Session: 3, Seq: 1, Name: "a"}}, "\x80\x80\x80\x80\x80\x40\x02\x06\x0a\x06\x02\x01a\x00"},
	} {
		if s, e := cmds.EncodeEntry(x.e); s != x.want || e != api.OK {
			t.Errorf("EncodeEntry(%#v): %q %d, want %q", x.e, s, e, x.want)
		}
		if got, e := cmds.DecodeEntry(x.want); got != x.e || e != api.OK {
			t.Errorf("DecodeEntry(%q): %#v %d", x.want, got, e)
		}
	}
}

func TestEntriesAtAndBesideEachBound(t *testing.T) {
	wrong := []api.Cmd{{Kind: 13}, {N: 1}, {Kind: api.CmdTerm}, {Kind: api.CmdLock, Session: 3, Seq: 1}}
	for _, slot := range ints {
		for _, ballot := range ints {
			for _, c := range append(ordinary(), wrong...) {
				in := api.Entry{Slot: slot, Ballot: ballot, Cmd: c}
				bytes := writtenEntry(slot, ballot, written(c))
				wantText, wantErr, wantEntry, wantBack := "", api.ErrArg, api.Entry{}, api.ErrFormat
				if 1 <= slot && slot <= high && 0 <= ballot && ballot <= high && mayBe(c) {
					wantText, wantErr, wantEntry, wantBack = bytes, api.OK, in, api.OK
				}
				if s, e := cmds.EncodeEntry(in); s != wantText || e != wantErr {
					t.Fatalf("EncodeEntry(%#v): %q %d, want %q %d", in, s, e, wantText, wantErr)
				}
				if got, e := cmds.DecodeEntry(bytes); got != wantEntry || e != wantBack {
					t.Fatalf("DecodeEntry(%q): %#v %d, want %#v %d", bytes, got, e, wantEntry, wantBack)
				}
			}
		}
	}
}

func TestEntriesOfAllCommands(t *testing.T) {
	for _, c := range good() {
		in := api.Entry{Slot: 5, Ballot: 0, Cmd: c}
		s, e := cmds.EncodeEntry(in)
		got, f := cmds.DecodeEntry(s)
		if s != writtenEntry(5, 0, written(c)) || e != api.OK || got != in || f != api.OK {
			t.Fatalf("%#v: %q %d %#v %d", in, s, e, got, f)
		}
	}
}

func TestDecodeEntryWrong(t *testing.T) {
	for _, c := range ordinary() {
		s := writtenEntry(1, 9, written(c))
		for i := range len(s) {
			mustNotDecodeEntry(t, "a beginning", s[:i])
		}
		for i := range len(written(c)) {
			mustNotDecodeEntry(t, "a beginning of a command", writtenEntry(1, 9, written(c)[:i]))
		}
		for _, behind := range []string{"\x00", "\x80", "a", s} {
			mustNotDecodeEntry(t, "more behind", s+behind)
			mustNotDecodeEntry(t, "more behind the command", writtenEntry(1, 9, written(c)+behind))
		}
		mustNotDecodeEntry(t, "a command alone", written(c))
		mustNotDecodeEntry(t, "a command that is no text", "\x02\x12"+written(c))
		mustNotDecode(t, "an entry as a command", s)
	}
	mustNotDecodeEntry(t, "a text that is too long", writtenEntry(1, 9, strings.Repeat("\x00", api.MaxText+1)))
	mustNotDecodeEntry(t, "a text that is no command", writtenEntry(1, 9, "a lock"))
}

// R4: a name that is handed out is no piece of what was handed in.
func TestNamesAreNewMemory(t *testing.T) {
	in := written(api.Cmd{Kind: api.CmdLock, Session: 3, Seq: 1, Name: "abc"})
	if c, _ := cmds.Decode(in); unsafe.StringData(c.Name) == unsafe.StringData(in[4:]) {
		t.Error("a command's name is shared")
	}
	entry := writtenEntry(1, 9, in)
	if e, _ := cmds.DecodeEntry(entry); unsafe.StringData(e.Cmd.Name) == unsafe.StringData(entry[7:]) {
		t.Error("an entry's name is shared")
	}
}

// Promise 3.2.

func TestEachHasBytesOfItsOwn(t *testing.T) {
	whose := map[string]api.Cmd{}
	entries := map[string]api.Entry{}
	for _, c := range good() {
		s, _ := cmds.Encode(c)
		if other, ok := whose[s]; ok {
			t.Fatalf("%#v and %#v: %q", c, other, s)
		}
		whose[s] = c
		for _, in := range []api.Entry{{Slot: 1, Ballot: 2, Cmd: c}, {Slot: 2, Ballot: 1, Cmd: c}, {Slot: 2, Cmd: c}} {
			s, _ := cmds.EncodeEntry(in)
			if other, ok := entries[s]; ok {
				t.Fatalf("%#v and %#v: %q", in, other, s)
			}
			entries[s] = in
		}
	}
}

// What is read at all is read as it is written: no bytes beside a command's own stand for it.
func TestOnlyItsOwnBytes(t *testing.T) {
	x := rand.New(rand.NewPCG(3, 2))
	read, l := 0, ordinary()
	for range 200000 {
		b := []byte(written(l[x.IntN(len(l))]))
		for range 1 + x.IntN(2) {
			b[x.IntN(len(b))] = byte(x.IntN(256))
		}
		s := string(b)
		c, e := cmds.Decode(s)
		if e != api.OK {
			mustNotDecode(t, "turned bytes", s)
			continue
		}
		read++
		if back, f := cmds.Encode(c); back != s || f != api.OK || !mayBe(c) {
			t.Fatalf("Decode(%q): %#v, whose bytes are %q %d", s, c, back, f)
		}
	}
	if read == 0 {
		t.Error("none was read")
	}
}

package locks_test

import (
	"encoding/binary"
	"math/rand/v2"
	"slices"
	"strings"
	"testing"

	"latchkey/api"
	"latchkey/locks"
)

// Promise 19.4. What is written is told here as a row of parts: numbers from 0 on, as they are written, and texts.

type part struct {
	n      uint64
	text   string
	isText bool
}

// fold gives a signed number as one from 0 on.
func fold(n int) uint64 { return uint64(n)<<1 ^ uint64(n>>63) }

func unfold(n uint64) int { return int(n>>1) ^ -int(n&1) }

func num(n int) part     { return part{n: fold(n)} }
func text(s string) part { return part{text: s, isText: true} }

func bytesOf(l []part) string {
	var b []byte
	for _, p := range l {
		if p.isText {
			b = append(binary.AppendUvarint(b, uint64(len(p.text))), p.text...)
		} else {
			b = binary.AppendUvarint(b, p.n)
		}
	}
	return string(b)
}

func flag(b bool) int {
	if b {
		return 1
	}
	return 0
}

// rowParts gives what is written of a lock, its holders and who waits in the order in which they stand in x.
func rowParts(x row) []part {
	l := []part{text(x.name), num(flag(x.writer)), num(len(x.holders))}
	for _, s := range x.holders {
		l = append(l, num(s))
	}
	l = append(l, num(len(x.queue)))
	for _, a := range x.queue {
		l = append(l, num(a.session), num(a.seq), num(flag(a.reader)))
	}
	return l
}

// partsOfRows gives the parts of rows as they stand.
func partsOfRows(token uint64, rows []row) []part {
	l := []part{{n: token}, num(len(rows))}
	for _, x := range rows {
		l = append(l, rowParts(x)...)
	}
	return l
}

// partsOf gives all that is written of p.
func partsOf(p *plain) []part {
	q := p.copy()
	slices.SortFunc(q.rows, func(a, b row) int { return strings.Compare(a.name, b.name) })
	for _, x := range q.rows {
		slices.Sort(x.holders)
	}
	return partsOfRows(q.token, q.rows)
}

func textOf(p *plain) string { return bytesOf(partsOf(p)) }

// input is a text that is read from its front on; once it is bad, all that is read is 0 or "".
type input struct {
	rest string
	bad  bool
}

func (r *input) u64() uint64 {
	n, size := binary.Uvarint([]byte(r.rest[:min(len(r.rest), 11)]))
	if size <= 0 || size > 1 && r.rest[size-1] == 0 {
		*r = input{bad: true}
		return 0
	}
	r.rest = r.rest[size:]
	return n
}

func (r *input) int() int { return unfold(r.u64()) }

func (r *input) text() string {
	n := r.u64()
	if n > uint64(len(r.rest)) {
		*r = input{bad: true}
		return ""
	}
	s := r.rest[:n]
	r.rest = r.rest[n:]
	return s
}

// plainDecode reads the locks of a text, and holds each of the chapter's conditions against them; nil, if one is broken.
func plainDecode(s string) *plain {
	r := &input{rest: s}
	p := &plain{token: r.u64()}
	count := r.int()
	if count < 0 || count > most {
		return nil
	}
	for range count {
		x, ok := r.row()
		if !ok || r.bad {
			return nil
		}
		if len(p.rows) > 0 && p.rows[len(p.rows)-1].name >= x.name {
			return nil
		}
		p.rows = append(p.rows, x)
	}
	if r.bad || r.rest != "" {
		return nil
	}
	return p
}

// row reads a lock, and tells whether it may be.
func (r *input) row() (row, bool) {
	x := row{name: r.text()}
	writer := r.int()
	x.writer = writer == 1
	seen := map[int]bool{}
	holders := r.int()
	if len(x.name) < 1 || len(x.name) > 64 || writer < 0 || writer > 1 || holders < 1 || x.writer && holders != 1 {
		return x, false
	}
	for i := range holders {
		s := r.int()
		if r.bad || s < 1 || s > great || i > 0 && x.holders[i-1] >= s {
			return x, false
		}
		seen[s] = true
		x.holders = append(x.holders, s)
	}
	waiting := r.int()
	if waiting < 0 {
		return x, false
	}
	for i := range waiting {
		a := asked{session: r.int(), seq: r.int()}
		reader := r.int()
		a.reader = reader == 1
		switch {
		case r.bad, a.session < 1, a.session > great, a.seq < 1, a.seq > great, reader < 0, reader > 1, seen[a.session]:
			return x, false
		case i == 0 && a.reader && !x.writer:
			return x, false
		}
		seen[a.session] = true
		x.queue = append(x.queue, a)
	}
	return x, true
}

// mustDecode looks whether a text is read as those locks.
func mustDecode(t *testing.T, what, s string, want *plain) *locks.Locks {
	t.Helper()
	l, err := locks.Decode(s)
	if l == nil || err != api.OK {
		t.Fatalf("%s: Decode(%.80q): %v, %d", what, s, l, err)
	}
	mustKnow(t, what, l, want)
	return l
}

func mustNotDecode(t *testing.T, what, s string) {
	t.Helper()
	if l, err := locks.Decode(s); l != nil || err != api.ErrFormat {
		t.Fatalf("%s: Decode(%.80q): %v, %d", what, s, l, err)
	}
}

// mustRead looks whether a text is read if the test's own reading takes it, and tells whether it does.
func mustRead(t *testing.T, what, s string) bool {
	t.Helper()
	p := plainDecode(s)
	if p == nil {
		mustNotDecode(t, what, s)
		return false
	}
	mustDecode(t, what, s, p)
	return true
}

func mustEncode(t *testing.T, x both, want string) {
	t.Helper()
	if got := x.l.Encode(); got != want {
		t.Fatalf("Encode: %q, not %q", got, want)
	}
	mustDecode(t, "Decode", want, x.p)
}

func TestEncode(t *testing.T) {
	x := newBoth(t)
	mustEncode(t, x, "\x00\x00")
	x.ask(cmd(lock, 1, "a"))
	mustEncode(t, x, "\x01\x02"+"\x01a\x02\x02\x02\x00")
	x.ask(cmd(lock, 2, "a"))
	mustEncode(t, x, "\x01\x02"+"\x01a\x02\x02\x02\x02\x04\x28\x00")
	x.ask(api.Cmd{Kind: rlock, Session: 64, Seq: great, Name: "a"})
	mustEncode(t, x, "\x01\x02"+"\x01a\x02\x02\x02\x04\x04\x28\x00\x80\x01\x80\x80\x80\x80\x08\x02")
	x.ask(cmd(rlock, 9, "B\xff"))
	x.ask(cmd(rlock, 3, "B\xff"))
	mustEncode(t, x, "\x01\x04"+"\x02B\xff\x00\x04\x06\x12\x00"+"\x01a\x02\x02\x02\x04\x04\x28\x00\x80\x01\x80\x80\x80\x80\x08\x02")
	x.release(cmd(unlock, 1, "a"))
	mustEncode(t, x, "\x02\x04"+"\x02B\xff\x00\x04\x06\x12\x00"+"\x01a\x02\x02\x04\x02\x80\x01\x80\x80\x80\x80\x08\x02")
	x.gone(3)
	x.gone(2)
	mustEncode(t, x, "\x02\x04"+"\x02B\xff\x00\x02\x12\x00"+"\x01a\x00\x02\x80\x01\x00")
	x.setToken(300)
	mustEncode(t, x, "\xac\x02\x04"+"\x02B\xff\x00\x02\x12\x00"+"\x01a\x00\x02\x80\x01\x00")
	x.gone(9)
	x.gone(64)
	mustEncode(t, x, "\xac\x02\x00")
	x.setToken(noMore)
	mustEncode(t, x, strings.Repeat("\xff", 9)+"\x01\x00")
}

// some gives locks of each kind: for writing and for reading, with one and several that hold them, and who waits in both ways.
func some(t *testing.T) both {
	t.Helper()
	x := newBoth(t)
	x.setToken(200)
	for _, c := range []api.Cmd{
		cmd(rlock, 9, "reads"), cmd(rlock, 2, "reads"), cmd(rlock, 5, "reads"), cmd(lock, 3, "reads"), cmd(rlock, 4, "reads"), cmd(lock, 70, "reads"),
		cmd(lock, 1, "b"), cmd(rlock, 2, "b"), cmd(lock, 3, "b"), cmd(rlock, 4, "b"),
		cmd(lock, 8, "a"),
		cmd(rlock, 7, "\xff\x00"),
	} {
		x.ask(c)
	}
	x.mustKnow("some")
	return x
}

func TestDecodeWhatWasEncoded(t *testing.T) {
	x := some(t)
	l := mustDecode(t, "some", x.l.Encode(), x.p)
	x.mustKnow("what was encoded")
	y := both{t, l, x.p}
	y.mustGo(9)
	y.mustRelease(cmd(runlock, 2, "reads"), ok(2))
	y.mustRelease(cmd(runlock, 5, "reads"), ok(5), grant(3, 203))
	for _, count := range []int{most - 1, most} {
		x = newBoth(t)
		x.full(count)
		y = both{t, mustDecode(t, "full", x.l.Encode(), x.p), x.p}
		if count < most {
			y.ask(cmd(lock, 8, "last"))
		}
		y.mustAsk(cmd(lock, 8, "more"), refusal(8, api.ErrFull))
		y.mustGo(7)
	}
}

// Each beginning, each with a byte more at an end, each with one byte out and with one byte changed to whatever: it is read only if the changed text is that of other locks.
func TestDecodeChanged(t *testing.T) {
	good, bad := 0, 0
	check := func(s string) {
		t.Helper()
		if mustRead(t, "changed", s) {
			good++
		} else {
			bad++
		}
	}
	for _, x := range []both{newBoth(t), some(t), longNames(t)} {
		s := x.l.Encode()
		for i := range s {
			mustNotDecode(t, "a beginning", s[:i])
			check(s[i+1:])
			check(s[:i] + s[i+1:])
			for c := range 256 {
				check(s[:i] + string([]byte{byte(c)}) + s[i+1:])
			}
		}
		for c := range 256 {
			mustNotDecode(t, "a byte more", s+string([]byte{byte(c)}))
			check(string([]byte{byte(c)}) + s)
		}
		mustNotDecode(t, "twice", s+s)
	}
	if good < 3000 || bad < 30000 {
		t.Fatalf("%d good, %d bad", good, bad)
	}
}

// longNames gives locks whose names have 1, 63 and 64 bytes.
func longNames(t *testing.T) both {
	t.Helper()
	x := newBoth(t)
	for _, n := range []int{64, 1, 63} {
		x.ask(cmd(lock, n, strings.Repeat("x", n)))
		x.ask(cmd(lock, great/10+n, strings.Repeat("x", n)))
	}
	x.mustKnow("long names")
	return x
}

// Each number replaced by each of these, and by what stands at another place.
func TestDecodeNumbersChanged(t *testing.T) {
	values := []uint64{fold(least), fold(greatest), 1 << 63, fold(great) + 1, fold(great) + 2, fold(great), fold(-great), fold(great - 1)}
	for n := range uint64(40) {
		values = append(values, n)
	}
	for _, n := range []int{255, 256, 257, 1 << 32, 1<<32 + 1, -255, 1<<32 + 2} {
		values = append(values, fold(n))
	}
	was := partsOf(some(t).p)
	for _, p := range was {
		values = append(values, p.n)
	}
	good := 0
	for i := range was {
		for _, n := range values {
			if was[i].isText {
				continue
			}
			l := slices.Clone(was)
			l[i].n = n
			good += flag(mustRead(t, "changed", bytesOf(l)))
		}
	}
	if good < 500 {
		t.Fatalf("%d good", good)
	}
}

// reads looks whether locks as they stand in rows are read or not.
func reads(t *testing.T, what string, want bool, rows ...row) {
	t.Helper()
	s := bytesOf(partsOfRows(7, rows))
	if got := mustRead(t, what, s); got != want {
		t.Fatalf("%s: %t", what, got)
	}
}

// Numbers of a session and of a Seq, and whether they may be.
var numbers = []struct {
	n   int
	may bool
}{
	{least, false}, {-great, false}, {-1, false}, {0, false}, {1, true}, {2, true}, {great - 1, true}, {great, true},
	{great + 1, false}, {1 << 31, false}, {1 << 32, false}, {1<<32 + 1, false}, {greatest, false},
}

// Texts that break one condition each, and those beside them that break none.
func TestDecodeNames(t *testing.T) {
	named := func(s string) row { return row{name: s, writer: true, holders: []int{1}} }
	for _, n := range []int{0, 1, 2, 63, 64, 65, 66, 127, 128, 1000} {
		reads(t, "a name's length", 1 <= n && n <= 64, named(strings.Repeat("n", n)))
		reads(t, "a name's length behind another", 1 <= n && n <= 64, named("m"), named(strings.Repeat("n", n)))
	}
	reads(t, "a name of more than MaxText bytes", false, named(strings.Repeat("n", api.MaxText+1)))
	reads(t, "in order", true, named("a"), named("a\x00"), named("b"), named("\x80"))
	reads(t, "out of order", false, named("a"), named("a\x00"), named("\x80"), named("b"))
	reads(t, "out of order", false, named("b"), named("a"))
	reads(t, "a longer one ahead", false, named("ab"), named("a"))
	reads(t, "doubled", false, named("a"), named("a"))
	reads(t, "doubled", false, named("a"), named("b"), named("b"))
	reads(t, "doubled", false, named("a"), named("b"), named("a"))
}

func TestDecodeHolders(t *testing.T) {
	for _, c := range numbers {
		reads(t, "a writer", c.may, row{name: "a", writer: true, holders: []int{c.n}})
		reads(t, "a reader", c.may, row{name: "a", holders: []int{c.n}})
		reads(t, "a further reader", c.may && c.n > 1, row{name: "a", holders: []int{1, c.n}})
	}
	reads(t, "no holder", false, row{name: "a"})
	reads(t, "no holder, for writing", false, row{name: "a", writer: true})
	reads(t, "no holder, who waits", false, row{name: "a", queue: []asked{{1, 1, false}}})
	reads(t, "no holder, who waits for reading", false, row{name: "a", queue: []asked{{1, 1, true}}})
	reads(t, "two readers", true, row{name: "a", holders: []int{1, 2}})
	reads(t, "two writers", false, row{name: "a", writer: true, holders: []int{1, 2}})
	reads(t, "many readers", true, row{name: "a", holders: []int{1, 2, 3, 4, 5, 6, 7, 8, 9}})
	reads(t, "out of order", false, row{name: "a", holders: []int{2, 1}})
	reads(t, "out of order", false, row{name: "a", holders: []int{1, 3, 2}})
	reads(t, "doubled", false, row{name: "a", holders: []int{2, 2}})
	reads(t, "doubled", false, row{name: "a", holders: []int{1, 2, 2}})
	reads(t, "a writer doubled", false, row{name: "a", writer: true, holders: []int{2, 2}})
	reads(t, "the same of another lock", true, row{name: "a", holders: []int{1, 2}}, row{name: "b", writer: true, holders: []int{1}})
}

func TestDecodeQueue(t *testing.T) {
	writes := row{name: "a", writer: true, holders: []int{7}}
	readers := row{name: "a", holders: []int{7, 8}}
	with := func(x row, queue ...asked) row {
		x.queue = queue
		return x
	}
	for _, c := range numbers {
		reads(t, "who waits", c.may, with(writes, asked{c.n, 1, true}))
		reads(t, "who waits", c.may, with(readers, asked{c.n, 1, false}))
		reads(t, "a Seq", c.may, with(writes, asked{9, c.n, false}))
		reads(t, "who waits behind another", c.may, with(writes, asked{9, 1, true}, asked{c.n, 1, false}))
		reads(t, "a Seq behind another", c.may, with(writes, asked{9, 1, true}, asked{10, c.n, false}))
	}
	for _, first := range []bool{false, true} {
		for _, second := range []bool{false, true} {
			reads(t, "behind a writer", true, with(writes, asked{5, 1, first}, asked{4, 1, second}))
			reads(t, "behind readers", !first, with(readers, asked{5, 1, first}, asked{4, 1, second}))
			reads(t, "the holder", false, with(writes, asked{5, 1, first}, asked{7, 1, second}))
			reads(t, "the holder ahead", false, with(writes, asked{7, 1, first}, asked{5, 1, second}))
			reads(t, "a reader that holds it", false, with(readers, asked{5, 1, false}, asked{8, 1, second}))
			reads(t, "twice", false, with(writes, asked{5, 1, first}, asked{5, 1, second}))
			reads(t, "twice with other Seqs", false, with(writes, asked{5, 1, first}, asked{5, 2, second}))
			reads(t, "twice, not in a row", false, with(writes, asked{5, 1, first}, asked{6, 1, true}, asked{5, 1, second}))
		}
		reads(t, "alone behind a reader", !first, with(row{name: "a", holders: []int{7}}, asked{5, 1, first}))
		reads(t, "alone behind a writer", true, with(writes, asked{5, 1, first}))
	}
	reads(t, "the same waits for another lock", true, with(writes, asked{5, 1, true}), row{name: "b", writer: true, holders: []int{5}, queue: []asked{{7, 1, true}}})
}

// The flags, and the counts, at other numbers.
func TestDecodeFlagsAndCounts(t *testing.T) {
	l := partsOfRows(7, []row{{name: "a", writer: true, holders: []int{7}, queue: []asked{{5, 1, true}, {6, 1, false}}}, {name: "b", holders: []int{1}}})
	const atLocks, atWriter, atHolders, atQueue, atReader, atLast = 1, 3, 4, 6, 9, 12
	for _, n := range []int{least, -3, -2, -1, 0, 1, 2, 3, 4, 255, 256, 257, 1 << 32, 1<<32 + 1, greatest} {
		for _, c := range []struct {
			at  int
			may bool
		}{
			{atLocks, n == 2}, {atWriter, n == 1}, {atHolders, n == 1}, {atQueue, n == 2}, {atReader, n == 0 || n == 1}, {atLast, n == 0 || n == 1},
		} {
			changed := slices.Clone(l)
			changed[c.at] = num(n)
			if got := mustRead(t, "a flag, a count", bytesOf(changed)); got != c.may {
				t.Fatalf("%d at %d: %t", n, c.at, got)
			}
		}
	}
}

func TestDecodeMaxNames(t *testing.T) {
	for _, count := range []int{most - 1, most, most + 1, 2 * most} {
		var rows []row
		for i := range count {
			rows = append(rows, row{name: string([]byte{byte(1 + i/250), byte(i % 250)}), writer: i%2 == 0, holders: []int{i + 1}})
		}
		reads(t, "so many locks", count <= most, rows...)
		if count == most {
			reads(t, "one of them twice", false, append(slices.Clone(rows), rows[most-1])...)
			reads(t, "one of them twice", false, append(slices.Clone(rows[1:]), rows[most-1])...)
		}
	}
}

// Numbers with more bytes than they need, and with more than 64 bits, are none at whatever place; nor are such lengths of texts.
func TestDecodeNumbersOfOtherBytes(t *testing.T) {
	l := partsOf(some(t).p)
	for i, p := range l {
		n, tail := p.n, ""
		if p.isText {
			n, tail = uint64(len(p.text)), p.text
		}
		ahead, behind := bytesOf(l[:i]), tail+bytesOf(l[i+1:])
		b := binary.AppendUvarint(nil, n)
		b[len(b)-1] |= 128
		mustNotDecode(t, "a byte more", ahead+string(b)+"\x00"+behind)
		mustNotDecode(t, "two bytes more", ahead+string(b)+"\x80\x00"+behind)
		mustNotDecode(t, "more than 64 bits", ahead+strings.Repeat("\xff", 9)+"\x02"+behind)
		mustNotDecode(t, "more than 64 bits", ahead+strings.Repeat("\x80", 10)+"\x01"+behind)
		mustNotDecode(t, "no end", ahead+strings.Repeat("\xff", 12))
	}
}

// Texts of all kinds: short ones of each byte, and rows of small numbers.
func TestDecodeAny(t *testing.T) {
	mustNotDecode(t, "empty", "")
	for a := range 256 {
		mustNotDecode(t, "a byte", string([]byte{byte(a)}))
		for b := range 256 {
			mustRead(t, "two bytes", string([]byte{byte(a), byte(b)}))
		}
	}
	r := rand.New(rand.NewPCG(192, 1))
	good := 0
	for range 300000 {
		b := make([]byte, 2+r.IntN(14))
		for i := range b {
			b[i] = byte(r.IntN(1 << (1 + r.IntN(3))))
		}
		b[1] = byte(2 * r.IntN(2))
		good += flag(mustRead(t, "any", string(b)))
	}
	if good < 1000 {
		t.Fatalf("%d good", good)
	}
}

// A text that says that many are to come ends all the same, and soon.
func TestDecodeManyToCome(t *testing.T) {
	for _, count := range []int{1, 1 << 20, 1 << 40, greatest, -1, least} {
		n := bytesOf([]part{num(count)})
		for _, ahead := range []string{"\x00", "\x00\x02\x01a\x00", "\x00\x02\x01a\x02\x02\x02"} {
			mustNotDecode(t, "nothing behind it", ahead+n)
			mustNotDecode(t, "zeros behind it", ahead+n+strings.Repeat("\x00", 1000))
			mustNotDecode(t, "twos behind it", ahead+n+strings.Repeat("\x02", 1000))
		}
		mustNotDecode(t, "locks behind it", "\x00"+n+some(t).l.Encode()[3:])
	}
}

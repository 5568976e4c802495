package codec_test

import (
	"encoding/binary"
	"math"
	"math/rand/v2"
	"strings"
	"testing"
	"unsafe"

	"latchkey/api"
	"latchkey/codec"
)

// unsigned gives 0, the greatest number, and each number beside which one more bit or one more digit is needed.
func unsigned() []uint64 {
	l := []uint64{0, math.MaxUint64}
	for i := range 64 {
		p := uint64(1) << i
		l = append(l, p-1, p, p+1)
	}
	return l
}

// signed gives 0, -1, the least and the greatest int, and the numbers of unsigned on both sides of 0.
func signed() []int {
	l := []int{0, -1, math.MinInt, math.MaxInt}
	for _, n := range unsigned() {
		l = append(l, int(n), -int(n))
	}
	return l
}

func texts() []string {
	return []string{
		"", "a", "ab", "\x00", "\x80", "\xff\xfe", "é", "a\x00b",
		strings.Repeat("x", 127), strings.Repeat("x", 128),
		strings.Repeat("y", api.MaxText-1), strings.Repeat("y", api.MaxText),
	}
}

func bytesOf(write func(w *codec.Writer)) string {
	w := codec.New()
	write(w)
	return w.String()
}

func u64Bytes(n uint64) string  { return bytesOf(func(w *codec.Writer) { w.U64(n) }) }
func intBytes(n int) string     { return bytesOf(func(w *codec.Writer) { w.Int(n) }) }
func textBytes(s string) string { return bytesOf(func(w *codec.Writer) { w.Text(s) }) }

// Promise 1.1.

func TestNewHasNothing(t *testing.T) {
	if s := codec.New().String(); s != "" {
		t.Errorf("%q", s)
	}
}

func TestU64Bytes(t *testing.T) {
	for _, c := range []struct {
		n    uint64
		want string
	}{
		{0, "\x00"},
		{1, "\x01"},
		{127, "\x7f"},
		{128, "\x80\x01"},
		{300, "\xac\x02"},
		{16383, "\xff\x7f"},
		{16384, "\x80\x80\x01"},
		{1 << 63, "\x80\x80\x80\x80\x80\x80\x80\x80\x80\x01"},
		{1<<63 - 1, "\xff\xff\xff\xff\xff\xff\xff\xff\x7f"},
		{math.MaxUint64, "\xff\xff\xff\xff\xff\xff\xff\xff\xff\x01"},
	} {
		if got := u64Bytes(c.n); got != c.want {
			t.Errorf("U64(%d): %q, want %q", c.n, got, c.want)
		}
	}
	for _, n := range unsigned() {
		if got, want := u64Bytes(n), string(binary.AppendUvarint(nil, n)); got != want {
			t.Errorf("U64(%d): %q, want %q", n, got, want)
		}
	}
}

func TestIntBytes(t *testing.T) {
	for _, c := range []struct {
		n    int
		want string
	}{
		{0, "\x00"},
		{-1, "\x01"},
		{1, "\x02"},
		{-2, "\x03"},
		{63, "\x7e"},
		{-64, "\x7f"},
		{64, "\x80\x01"},
		{-65, "\x81\x01"},
		{math.MaxInt, "\xfe\xff\xff\xff\xff\xff\xff\xff\xff\x01"},
		{math.MinInt, "\xff\xff\xff\xff\xff\xff\xff\xff\xff\x01"},
	} {
		if got := intBytes(c.n); got != c.want {
			t.Errorf("Int(%d): %q, want %q", c.n, got, c.want)
		}
	}
	for _, n := range signed() {
		if got, want := intBytes(n), string(binary.AppendVarint(nil, int64(n))); got != want {
			t.Errorf("Int(%d): %q, want %q", n, got, want)
		}
	}
}

func TestTextBytes(t *testing.T) {
	if got := textBytes("ab"); got != "\x02ab" {
		t.Errorf("%q", got)
	}
	for _, s := range append(texts(), strings.Repeat("z", api.MaxText+1)) {
		if got, want := textBytes(s), string(binary.AppendUvarint(nil, uint64(len(s))))+s; got != want {
			t.Errorf("Text of %d bytes: %d bytes, want %d", len(s), len(got), len(want))
		}
	}
}

func TestStringGivesAllSoFar(t *testing.T) {
	w, other := codec.New(), codec.New()
	other.Int(7)
	w.Int(-1)
	first := w.String()
	w.Text("ab")
	second := w.String()
	w.U64(128)
	for i, got := range []string{first, second, w.String(), w.String(), other.String()} {
		want := []string{"\x01", "\x01\x02ab", "\x01\x02ab\x80\x01", "\x01\x02ab\x80\x01", "\x0e"}[i]
		if got != want {
			t.Errorf("%d: %q, want %q", i, got, want)
		}
	}
}

// Promise 1.2.

func TestReadersNumbers(t *testing.T) {
	for _, n := range unsigned() {
		r := codec.Of(string(binary.AppendUvarint(nil, n)))
		if got := r.U64(); got != n || r.Done() != api.OK {
			t.Errorf("U64: %d, want %d", got, n)
		}
	}
	for _, n := range signed() {
		r := codec.Of(string(binary.AppendVarint(nil, int64(n))))
		if got := r.Int(); got != n || r.Done() != api.OK {
			t.Errorf("Int: %d, want %d", got, n)
		}
	}
}

func TestReadersTexts(t *testing.T) {
	for _, s := range texts() {
		r := codec.Of(string(binary.AppendUvarint(nil, uint64(len(s)))) + s)
		if got := r.Text(); got != s || r.Done() != api.OK {
			t.Errorf("Text of %d bytes: %d bytes", len(s), len(got))
		}
	}
}

// mustBeBad asks all that a reader answers from its first bad read on.
func mustBeBad(t *testing.T, what string, r *codec.Reader) {
	t.Helper()
	for range 2 {
		if e := r.Done(); e != api.ErrFormat {
			t.Errorf("%s: Done %d", what, e)
		}
		if n := r.U64(); n != 0 {
			t.Errorf("%s: U64 %d of a bad reader", what, n)
		}
		if n := r.Int(); n != 0 {
			t.Errorf("%s: Int %d of a bad reader", what, n)
		}
		if s := r.Text(); s != "" {
			t.Errorf("%s: Text of %d bytes of a bad reader", what, len(s))
		}
	}
}

func TestBadNumbers(t *testing.T) {
	nine := strings.Repeat("\xff", 9)
	for _, s := range []string{
		"", "\x80", "\xff", "\x80\x80", nine, nine + "\x81", // they end within
		"\x80\x00", "\xff\x00", "\x80\x80\x00", "\x81\x80\x00", nine + "\x00", strings.Repeat("\x80", 9) + "\x00", // more bytes than needed
		nine + "\x02", nine + "\x03", nine + "\x7f", nine + "\x81\x00", nine + "\x81\x01", nine + "\xff\x7f", // more than 64 bits
		strings.Repeat("\x80", 9) + "\x02", strings.Repeat("\x80", 10) + "\x01", strings.Repeat("\x80", 99) + "\x01", strings.Repeat("\xff", 999),
	} {
		behind := []string{s}
		if s != "" && s[len(s)-1] < 128 {
			behind = append(behind, s+"\x02ab\x01\x02")
		}
		for _, s := range behind {
			r := codec.Of(s)
			if n := r.U64(); n != 0 {
				t.Errorf("U64 of %q: %d", s, n)
			}
			mustBeBad(t, "U64", r)
			r = codec.Of(s)
			if n := r.Int(); n != 0 {
				t.Errorf("Int of %q: %d", s, n)
			}
			mustBeBad(t, "Int", r)
			r = codec.Of(s)
			if got := r.Text(); got != "" {
				t.Errorf("Text of %q: %q", s, got)
			}
			mustBeBad(t, "Text", r)
		}
	}
}

func TestBadTexts(t *testing.T) {
	long := strings.Repeat("z", api.MaxText+1)
	for _, s := range []string{
		"\x01", "\x02a", "\x03ab", "\x03\x01\x01", "\x80\x01" + strings.Repeat("x", 127), // longer than what is left
		u64Bytes(api.MaxText) + long[:api.MaxText-1],
		textBytes(long), textBytes(long) + "\x01", textBytes(long + long), // longer than MaxText
		u64Bytes(1<<31) + "ab", u64Bytes(1<<32+2) + "ab", u64Bytes(1<<63-1) + "ab", u64Bytes(1<<63) + "ab", u64Bytes(1<<63+2) + "ab", u64Bytes(math.MaxUint64) + "ab",
	} {
		r := codec.Of(s)
		if got := r.Text(); got != "" {
			t.Errorf("Text of %.12q..: %d bytes", s, len(got))
		}
		mustBeBad(t, "Text", r)
	}
}

func TestBadFromThenOn(t *testing.T) {
	r := codec.Of("\x05\x02ab\x80\x00\x01\x02cd")
	if n, s := r.U64(), r.Text(); n != 5 || s != "ab" {
		t.Errorf("%d %q", n, s)
	}
	if n := r.Int(); n != 0 {
		t.Errorf("%d", n)
	}
	mustBeBad(t, "behind good ones", r)
	r = codec.Of("\x01")
	if n := r.U64(); n != 1 || r.Done() != api.OK {
		t.Errorf("%d", n)
	}
	if n := r.U64(); n != 0 {
		t.Errorf("%d", n)
	}
	mustBeBad(t, "past the end", r)
}

func TestDone(t *testing.T) {
	if e := codec.Of("").Done(); e != api.OK {
		t.Errorf("nothing: %d", e)
	}
	r := codec.Of("\x01\x00")
	if e := r.Done(); e != api.ErrFormat {
		t.Errorf("two left: %d", e)
	}
	if n := r.U64(); n != 1 {
		t.Errorf("Done changed the reader: %d", n)
	}
	if e := r.Done(); e != api.ErrFormat {
		t.Errorf("one left: %d", e)
	}
	if s := r.Text(); s != "" {
		t.Errorf("%q", s)
	}
	if a, b := r.Done(), r.Done(); a != api.OK || b != api.OK {
		t.Errorf("none left: %d %d", a, b)
	}
}

func TestOneReaderIsNotAnother(t *testing.T) {
	a, b := codec.Of("\x01\x02"), codec.Of("\x01\x02")
	a.U64()
	if n, m := a.U64(), b.U64(); n != 2 || m != 1 {
		t.Errorf("%d %d", n, m)
	}
}

// R1: the nil things.
func TestNil(t *testing.T) {
	var w *codec.Writer
	w.Int(1)
	w.U64(1)
	w.Text("ab")
	if s := w.String(); s != "" {
		t.Errorf("%q", s)
	}
	var r *codec.Reader
	mustBeBad(t, "nil", r)
}

// R4: a text that is handed out is no piece of what was handed in.
func TestTextIsNewMemory(t *testing.T) {
	in := textBytes("ab")
	if out := codec.Of(in).Text(); unsafe.StringData(out) == unsafe.StringData(in[1:]) {
		t.Error("shared")
	}
}

// Promise 1.3.

// part is a number or a text of a row; kind: 'i', 'u' or 't'.
type part struct {
	kind byte
	i    int
	u    uint64
	t    string
}

func write(row []part) string {
	return bytesOf(func(w *codec.Writer) {
		for _, p := range row {
			switch p.kind {
			case 'i':
				w.Int(p.i)
			case 'u':
				w.U64(p.u)
			case 't':
				w.Text(p.t)
			}
		}
	})
}

// read gives what r has in the row's shape.
func read(r *codec.Reader, row []part) []part {
	var l []part
	for _, p := range row {
		switch p.kind {
		case 'i':
			l = append(l, part{kind: 'i', i: r.Int()})
		case 'u':
			l = append(l, part{kind: 'u', u: r.U64()})
		case 't':
			l = append(l, part{kind: 't', t: r.Text()})
		}
	}
	return l
}

func same(a, b []part) bool {
	for i := range a {
		if a[i] != b[i] {
			return false
		}
	}
	return len(a) == len(b)
}

func randomPart(x *rand.Rand) part {
	n := x.Uint64() >> x.IntN(64)
	switch x.IntN(3) {
	case 0:
		return part{kind: 'i', i: int(n) * (1 - 2*x.IntN(2))}
	case 1:
		return part{kind: 'u', u: n}
	}
	b := make([]byte, x.IntN(200))
	for i := range b {
		b[i] = byte(x.IntN(256))
	}
	return part{kind: 't', t: string(b)}
}

func TestThereAndBack(t *testing.T) {
	x := rand.New(rand.NewPCG(1, 3))
	for range 2000 {
		row := make([]part, x.IntN(12))
		for i := range row {
			row[i] = randomPart(x)
		}
		s := write(row)
		r := codec.Of(s)
		if got := read(r, row); !same(got, row) || r.Done() != api.OK {
			t.Fatalf("%#v came back as %#v", row, got)
		}
		if len(s) > 0 { // a part of the row's bytes is no row of its shape
			r = codec.Of(s[:x.IntN(len(s))])
			if read(r, row); r.Done() != api.ErrFormat {
				t.Fatalf("a beginning of %#v was read", row)
			}
		}
	}
}

func TestLongTextsThereAndBack(t *testing.T) {
	var row []part
	for _, s := range texts() {
		row = append(row, part{kind: 't', t: s}, part{kind: 'i', i: -len(s)}, part{kind: 'u', u: uint64(len(s))})
	}
	r := codec.Of(write(row))
	if !same(read(r, row), row) || r.Done() != api.OK {
		t.Error("not the same")
	}
}

func TestRowsOfOneShapeHaveBytesOfTheirOwn(t *testing.T) {
	ints := []int{0, -1, 1, 63, 64, -64, -65, 97, -49, math.MinInt, math.MaxInt}
	nums := []uint64{0, 1, 2, 97, 127, 128, 1 << 63, math.MaxUint64}
	words := []string{"", "a", "b", "aa", "\x00", "\x01", "\x01a", "a\x00", "\x80"}
	seen := map[string]part{}
	for _, a := range words {
		for _, n := range ints {
			for _, m := range nums {
				for _, b := range words {
					s := write([]part{{kind: 't', t: a}, {kind: 'i', i: n}, {kind: 'u', u: m}, {kind: 't', t: b}})
					if p, ok := seen[s]; ok {
						t.Fatalf("%q %d %d %q has the bytes of %#v", a, n, m, b, p)
					}
					seen[s] = part{i: n, u: m, t: a + "," + b}
				}
			}
		}
	}
}

// rowsOf gives all rows of up to most of these bytes.
func rowsOf(digits string, most int) []string {
	all, last := []string{""}, []string{""}
	for range most {
		var next []string
		for _, s := range last {
			for i := range len(digits) {
				next = append(next, s+digits[i:i+1])
			}
		}
		all, last = append(all, next...), next
	}
	return all
}

func TestNoOtherBytesAreRead(t *testing.T) {
	var every []byte
	for n := range 256 {
		every = append(every, byte(n))
	}
	for _, s := range append(rowsOf(string(every), 2), rowsOf("\x00\x01\x03\x7f\x80\x81\xff", 5)...) {
		for _, kind := range []byte{'u', 'i', 't'} {
			r := codec.Of(s)
			row := read(r, []part{{kind: kind}})
			if r.Done() == api.OK && write(row) != s {
				t.Fatalf("%q is read as %#v, which is written otherwise", s, row)
			}
		}
	}
}

package frame_test

import (
	"encoding/binary"
	"hash/crc32"
	"math/rand/v2"
	"slices"
	"strings"
	"testing"
	"unsafe"

	"latchkey/api"
	"latchkey/frame"
)

// framed makes a frame of any text, whatever its length, by the library's means.
func framed(s string) string {
	length := binary.LittleEndian.AppendUint32(nil, uint32(len(s)))
	sum := crc32.ChecksumIEEE(append(slices.Clone(length), s...))
	return string(binary.LittleEndian.AppendUint32(length, sum)) + s
}

// turned gives s with one bit turned.
func turned(s string, bit int) string {
	b := []byte(s)
	b[bit/8] ^= 1 << (bit % 8)
	return string(b)
}

func randomText(x *rand.Rand, most int) string {
	b := make([]byte, x.IntN(most+1))
	for i := range b {
		b[i] = byte(x.IntN(256))
	}
	return string(b)
}

func texts() []string {
	l := []string{
		"", "a", "ab", "\x00", "\x00\x00\x00\x00", "\x80", "\xff", "\xff\xff\xff\xff", "é", "a\x00b",
		strings.Repeat("x", 255), strings.Repeat("x", 256), strings.Repeat("x", 65535), strings.Repeat("x", 65536),
		strings.Repeat("y", api.MaxText-1), strings.Repeat("y", api.MaxText),
		framed("ab"), framed("ab") + framed(""),
	}
	x := rand.New(rand.NewPCG(2, 1))
	for range 200 {
		l = append(l, randomText(x, 300))
	}
	return l
}

// Promise 2.1.

func TestSum(t *testing.T) {
	for _, c := range []struct {
		s    string
		want int
	}{
		{"", 0},
		{"123456789", 3421780262},
		{"\x00", 0xd202ef8d},
		{"\xff", 0xff000000},
		{"\x00\x00\x00\x00", 0x2144df1c},
		{"\xff\xff\xff\xff", 0xffffffff},
		{"The quick brown fox jumps over the lazy dog", 0x414fa339},
	} {
		if got := frame.Sum(c.s); got != c.want {
			t.Errorf("Sum(%q): %d, want %d", c.s, got, c.want)
		}
	}
}

func TestSumAsTheLibrarys(t *testing.T) {
	l := append(texts(), strings.Repeat("z", api.MaxText+1), strings.Repeat("\xa5z", api.MaxText))
	for i := range 1 << 16 {
		l = append(l, string([]byte{byte(i), byte(i >> 8)}))
	}
	for _, s := range l {
		if got, want := frame.Sum(s), int(crc32.ChecksumIEEE([]byte(s))); got != want {
			t.Errorf("Sum of %.20q: %d, want %d", s, got, want)
		}
	}
}

func TestWrapBytes(t *testing.T) {
	for _, c := range []struct{ s, want string }{
		{"", "\x00\x00\x00\x00\x1c\xdf\x44\x21"},
		{"ab", "\x02\x00\x00\x00\x3a\x5a\x50\x23ab"},
	} {
		if got, e := frame.Wrap(c.s); got != c.want || e != api.OK {
			t.Errorf("Wrap(%q): %q %d, want %q", c.s, got, e, c.want)
		}
	}
	for _, s := range texts() {
		if got, e := frame.Wrap(s); got != framed(s) || e != api.OK {
			t.Errorf("Wrap of %.20q, %d bytes: %.20q, %d bytes, %d", s, len(s), got, len(got), e)
		}
	}
}

func TestWrapTooLong(t *testing.T) {
	for _, n := range []int{api.MaxText + 1, api.MaxText + 2, 2 * api.MaxText, 3*api.MaxText + 5} {
		if got, e := frame.Wrap(strings.Repeat("x", n)); got != "" || e != api.ErrArg {
			t.Errorf("Wrap of %d bytes: %d bytes, %d", n, len(got), e)
		}
	}
}

func TestFirst(t *testing.T) {
	for _, s := range texts() {
		for _, behind := range []string{"", "x", "\x00\x00\x00\x00", framed("cd"), "\xff\xff\xff\xff\xff\xff\xff\xff"} {
			got, n, e := frame.First(framed(s) + behind)
			if got != s || n != 8+len(s) || e != api.OK {
				t.Errorf("First of %.20q's frame and %q: %.20q %d %d", s, behind, got, n, e)
			}
		}
	}
}

// mustBeNone asks First and All of bytes at whose front no frame is.
func mustBeNone(t *testing.T, what, s string, want api.Errno) {
	t.Helper()
	for range 2 {
		if got, n, e := frame.First(s); got != "" || n != 0 || e != want {
			t.Errorf("%s: First of %.20q: %.20q %d %d, want error %d", what, s, got, n, e, want)
		}
		if l, n := frame.All(s); len(l) != 0 || n != 0 {
			t.Errorf("%s: All of %.20q: %d texts, %d bytes", what, s, len(l), n)
		}
	}
}

func TestFirstOfTooFewBytes(t *testing.T) {
	for n := range 8 {
		mustBeNone(t, "a beginning of a frame", framed("ab")[:n], api.ErrEnd)
		mustBeNone(t, "a beginning of a frame without text", framed("")[:n], api.ErrEnd)
		mustBeNone(t, "a length above MaxText, too", strings.Repeat("\xff", n), api.ErrEnd)
	}
}

func TestFirstOfTooGreatLength(t *testing.T) {
	long := strings.Repeat("x", api.MaxText+1)
	for _, size := range []uint32{api.MaxText + 1, api.MaxText + 256, 2 * api.MaxText, 1 << 24, 1<<31 - 1, 1 << 31, 1<<32 - 1} {
		length := string(binary.LittleEndian.AppendUint32(nil, size))
		sum := string(binary.LittleEndian.AppendUint32(nil, crc32.ChecksumIEEE([]byte(length))))
		for _, s := range []string{length + "\x00\x00\x00\x00", length + sum, length + sum + "ab", length + sum + long + long} {
			mustBeNone(t, "length above MaxText", s, api.ErrFormat)
		}
	}
	mustBeNone(t, "a frame but for its length", framed(long), api.ErrFormat)
	mustBeNone(t, "and more behind", framed(long)+framed("ab"), api.ErrFormat)
}

func TestFirstOfTextThatEndsWithin(t *testing.T) {
	for _, s := range []string{"a", "ab", "\x00\x00", strings.Repeat("x", 300)} {
		f := framed(s)
		for n := 8; n < len(f); n++ {
			mustBeNone(t, "ends within", f[:n], api.ErrEnd)
			mustBeNone(t, "another sum, too", turned(f, 40)[:n], api.ErrEnd)
		}
	}
	long := framed(strings.Repeat("x", api.MaxText))
	mustBeNone(t, "MaxText bytes but one", long[:len(long)-1], api.ErrEnd)
	mustBeNone(t, "MaxText and no bytes", long[:8], api.ErrEnd)
}

func TestFirstOfAnotherSum(t *testing.T) {
	for _, s := range []string{"", "a", "ab", "\x00\x00\x00", strings.Repeat("x", api.MaxText)} {
		f := framed(s)
		for bit := 32; bit < 64; bit++ {
			mustBeNone(t, "a bit of the sum turned", turned(f, bit), api.ErrSum)
		}
		mustBeNone(t, "the text's sum alone", f[:4]+string(binary.LittleEndian.AppendUint32(nil, crc32.ChecksumIEEE([]byte(s))))+s, api.ErrSum)
		big := binary.BigEndian.AppendUint32(nil, binary.LittleEndian.Uint32([]byte(f[4:8])))
		mustBeNone(t, "the sum's great end first", f[:4]+string(big)+s, api.ErrSum)
	}
	mustBeNone(t, "zeros", strings.Repeat("\x00", 8), api.ErrSum)
	mustBeNone(t, "a length that is less", "\x01\x00\x00\x00"+framed("ab")[4:], api.ErrSum)
	mustBeNone(t, "a length that is more", "\x03\x00\x00\x00"+framed("ab")[4:]+"c", api.ErrSum)
}

func TestAll(t *testing.T) {
	a, b, none := framed("ab"), framed("c"), turned(framed("ab"), 70)
	for _, c := range []struct {
		s    string
		want []string
		n    int
	}{
		{"", nil, 0},
		{"x", nil, 0},
		{framed(""), []string{""}, 8},
		{a, []string{"ab"}, 10},
		{a + b, []string{"ab", "c"}, 19},
		{b + a + a, []string{"c", "ab", "ab"}, 29},
		{framed("") + framed("") + a + framed(""), []string{"", "", "ab", ""}, 34},
		{a + "zz", []string{"ab"}, 10},
		{a + b + "12345678", []string{"ab", "c"}, 19},
		{a + none, []string{"ab"}, 10},
		{a + none + b, []string{"ab"}, 10},
		{a + "\x00" + b, []string{"ab"}, 10},
		{a + b[:8] + a, []string{"ab"}, 10},
		{a + framed(strings.Repeat("x", api.MaxText+1)) + b, []string{"ab"}, 10},
		{none + a, nil, 0},
		{"x" + a, nil, 0},
		{framed(a+b) + b, []string{a + b, "c"}, 36},
	} {
		if l, n := frame.All(c.s); !slices.Equal(l, c.want) || n != c.n {
			t.Errorf("All(%.40q): %q %d, want %q %d", c.s, l, n, c.want, c.n)
		}
	}
}

func TestAllOfLongTexts(t *testing.T) {
	want := []string{strings.Repeat("x", api.MaxText), "", strings.Repeat("y", api.MaxText-1)}
	var s string
	for _, text := range want {
		s += framed(text)
	}
	if l, n := frame.All(s + "x"); !slices.Equal(l, want) || n != len(s) {
		t.Errorf("%d texts, %d bytes", len(l), n)
	}
}

// Promise 2.2.

// mustTellWhole asks All of each beginning of the texts' frames; behind stands behind the last.
func mustTellWhole(t *testing.T, texts []string, behind string) {
	t.Helper()
	var s string
	ends := []int{0}
	for _, text := range texts {
		f, _ := frame.Wrap(text)
		s += f
		ends = append(ends, len(s))
	}
	s += behind
	whole := 0
	for n := range len(s) + 1 {
		if whole < len(texts) && ends[whole+1] <= n {
			whole++
		}
		if l, size := frame.All(s[:n]); !slices.Equal(l, texts[:whole]) || size != ends[whole] {
			t.Fatalf("%d bytes of %q: %q %d, want %q %d", n, s, l, size, texts[:whole], ends[whole])
		}
	}
}

func TestAnyBeginning(t *testing.T) {
	mustTellWhole(t, []string{"ab", "", "", "c", "\x00\x00\x00\x00", framed("ab"), framed("")}, "\xff\xff\xff\xff\xff\xff\xff\xff")
	x := rand.New(rand.NewPCG(2, 2))
	for range 60 {
		l := make([]string, x.IntN(6))
		for i := range l {
			l[i] = randomText(x, 20)
		}
		mustTellWhole(t, l, "")
		mustTellWhole(t, l, strings.Repeat("\x00", x.IntN(20)))
	}
}

func TestBeginningOfLongFrames(t *testing.T) {
	a, b := framed(strings.Repeat("x", api.MaxText)), framed("ab")
	for n, want := range map[int]int{0: 0, 8: 0, len(a) - 1: 0, len(a): len(a), len(a) + 9: len(a), len(a) + 10: len(a) + 10} {
		if _, got := frame.All((a + b)[:n]); got != want {
			t.Errorf("%d bytes: %d, want %d", n, got, want)
		}
	}
}

func TestOneBitTurned(t *testing.T) {
	for _, s := range texts() {
		if len(s) == 0 || len(s) > 300 {
			continue
		}
		f, _ := frame.Wrap(s)
		for bit := 64; bit < 8*len(f); bit++ {
			mustBeNone(t, "a bit of the text turned", turned(f, bit), api.ErrSum)
		}
	}
	f, _ := frame.Wrap(strings.Repeat("x", api.MaxText))
	for _, bit := range []int{64, 71, 4 * len(f), 8*len(f) - 8, 8*len(f) - 1} {
		mustBeNone(t, "a bit of a long text turned", turned(f, bit), api.ErrSum)
	}
}

func TestOneBitTurnedWithin(t *testing.T) {
	a, b, c := framed("ab"), framed("cde"), framed("f")
	for bit := 64; bit < 8*len(b); bit++ {
		if l, n := frame.All(a + turned(b, bit) + c); !slices.Equal(l, []string{"ab"}) || n != len(a) {
			t.Errorf("bit %d: %q %d", bit, l, n)
		}
	}
}

func TestThereAndBack(t *testing.T) {
	var s string
	l := texts()
	for _, text := range l {
		f, e := frame.Wrap(text)
		if e != api.OK {
			t.Fatalf("Wrap of %d bytes: %d", len(text), e)
		}
		s += f
	}
	if got, n := frame.All(s); !slices.Equal(got, l) || n != len(s) {
		t.Errorf("%d texts, %d bytes, want %d, %d", len(got), n, len(l), len(s))
	}
}

// R4: what is handed out is no piece of what was handed in, nor of another answer.
func TestNewMemory(t *testing.T) {
	in := framed("ab") + framed("cd")
	one, _, _ := frame.First(in)
	l, _ := frame.All(in)
	m, _ := frame.All(in)
	seen := []*byte{unsafe.StringData(in[8:]), unsafe.StringData(in[18:])}
	for _, s := range append(append([]string{one}, l...), m...) {
		if slices.Contains(seen, unsafe.StringData(s)) {
			t.Errorf("%q is shared", s)
		}
		seen = append(seen, unsafe.StringData(s))
	}
	l[0] = "x"
	if m[0] != "ab" {
		t.Error("two answers share a list")
	}
}

package net_test

import (
	"math"
	"math/rand/v2"
	"slices"
	"strconv"
	"strings"
	"testing"
	"unsafe"

	"latchkey/api"
	"latchkey/net"
)

const (
	most    = 4096    // packets
	longest = 1 << 19 // bytes of a packet
)

// oddTexts may all be sent, whatever bytes they are of.
var oddTexts = []string{"", "\x00", "\xff", "é", "\xc3", "a\nb", "a", "a", strings.Repeat("\x00", 300)}

// model is a net told as plainly as the chapter does.
type model struct{ row []string }

func (m *model) send(s string) api.Errno {
	if len(m.row) == most {
		return api.ErrFull
	}
	if len(s) > longest {
		return api.ErrRange
	}
	m.row = append(slices.Clone(m.row), s)
	return api.OK
}

func (m *model) peek(n int) (string, api.Errno) {
	for i, s := range m.row {
		if i == n {
			return s, api.OK
		}
	}
	return "", api.ErrArg
}

func (m *model) take(n int) (string, api.Errno) {
	s, err := m.peek(n)
	var stay []string
	for i, other := range m.row {
		if i != n {
			stay = append(stay, other)
		}
	}
	m.row = stay
	return s, err
}

func (m *model) double(n int) api.Errno {
	s, err := m.peek(n)
	if err != api.OK {
		return err
	}
	return m.send(s)
}

// both is a net and its model, to which the same is done.
type both struct {
	t *testing.T
	x *net.Net
	m *model
}

func newBoth(t *testing.T) both { return both{t, net.New(), &model{}} }

func (b both) send(s string) {
	b.t.Helper()
	mustBe(b.t, "Send "+short(s), b.x.Send(s), b.m.send(s))
}

func (b both) double(n int) {
	b.t.Helper()
	mustBe(b.t, "Double "+strconv.Itoa(n), b.x.Double(n), b.m.double(n))
}

func (b both) take(n int) {
	b.t.Helper()
	got, err := b.x.Take(n)
	want, wantErr := b.m.take(n)
	mustGive(b.t, "Take "+strconv.Itoa(n), got, err, want, wantErr)
}

func (b both) peek(n int) {
	b.t.Helper()
	got, err := b.x.Peek(n)
	want, wantErr := b.m.peek(n)
	mustGive(b.t, "Peek "+strconv.Itoa(n), got, err, want, wantErr)
}

// check holds all that the net tells against the model; of the places beside its packets too.
func (b both) check() {
	b.t.Helper()
	mustHave(b.t, b.x, b.m.row...)
	for n := -2; n < len(b.m.row)+2; n++ {
		b.peek(n)
	}
}

// short is s, if it is not so long that nobody would read it.
func short(s string) string {
	if len(s) > 80 {
		return strconv.Quote(s[:80]) + ".. of " + strconv.Itoa(len(s))
	}
	return strconv.Quote(s)
}

func mustBe(t *testing.T, what string, got, want api.Errno) {
	t.Helper()
	if got != want {
		t.Fatalf("%s: %d, want %d", what, got, want)
	}
}

func mustGive(t *testing.T, what, got string, err api.Errno, want string, wantErr api.Errno) {
	t.Helper()
	if got != want || err != wantErr {
		t.Fatalf("%s: %s %d, want %s %d", what, short(got), err, short(want), wantErr)
	}
}

func mustTake(t *testing.T, x *net.Net, n int, want string) {
	t.Helper()
	got, err := x.Take(n)
	mustGive(t, "Take "+strconv.Itoa(n), got, err, want, api.OK)
}

func mustPeek(t *testing.T, x *net.Net, n int, want string) {
	t.Helper()
	got, err := x.Peek(n)
	mustGive(t, "Peek "+strconv.Itoa(n), got, err, want, api.OK)
}

// mustHave tells whether those are the packets, and no others.
func mustHave(t *testing.T, x *net.Net, want ...string) {
	t.Helper()
	if n := x.Len(); n != len(want) {
		t.Fatalf("Len: %d, want %d", n, len(want))
	}
	got := x.All()
	if len(got) != len(want) {
		t.Fatalf("All: %d packets, want %d", len(got), len(want))
	}
	for i := range want {
		if got[i] != want[i] {
			t.Fatalf("All: at %d %s, want %s", i, short(got[i]), short(want[i]))
		}
	}
}

// mustRefuse tells whether there is no packet at place n, and whether asking for it changes nothing.
func mustRefuse(t *testing.T, x *net.Net, n int) {
	t.Helper()
	was := x.All()
	where := " " + strconv.Itoa(n)
	s, err := x.Take(n)
	mustGive(t, "Take"+where, s, err, "", api.ErrArg)
	s, err = x.Peek(n)
	mustGive(t, "Peek"+where, s, err, "", api.ErrArg)
	mustBe(t, "Double"+where, x.Double(n), api.ErrArg)
	mustHave(t, x, was...)
}

// of is a net with those packets.
func of(packets ...string) *net.Net {
	x := net.New()
	for _, s := range packets {
		x.Send(s)
	}
	return x
}

// numbered is a row of n texts, no two the same.
func numbered(n int) []string {
	var row []string
	for i := range n {
		row = append(row, "p"+strconv.Itoa(i))
	}
	return row
}

// Promise 6.1.

func TestNew(t *testing.T) {
	x := net.New()
	if x == nil {
		t.Fatal("nil")
	}
	mustHave(t, x)
	for _, n := range []int{-1, 0, 1} {
		mustRefuse(t, x, n)
	}
}

func TestExample(t *testing.T) {
	x := net.New()
	mustBe(t, "Send", x.Send("a"), api.OK)
	mustBe(t, "Send", x.Send("b"), api.OK)
	mustTake(t, x, 0, "a")
	mustBe(t, "Double", x.Double(0), api.OK)
	mustHave(t, x, "b", "b")
}

func TestDeedsInTurn(t *testing.T) {
	x := net.New()
	for i, s := range []string{"a", "b", "c", "d", "e"} {
		mustBe(t, "Send "+s, x.Send(s), api.OK)
		mustPeek(t, x, i, s)
		if n := x.Len(); n != i+1 {
			t.Fatalf("Len: %d", n)
		}
	}
	mustHave(t, x, "a", "b", "c", "d", "e")
	mustTake(t, x, 2, "c")
	mustHave(t, x, "a", "b", "d", "e")
	mustTake(t, x, 0, "a")
	mustHave(t, x, "b", "d", "e")
	mustTake(t, x, 2, "e")
	mustHave(t, x, "b", "d")
	mustPeek(t, x, 1, "d")
	mustPeek(t, x, 1, "d")
	mustHave(t, x, "b", "d")
	mustBe(t, "Double", x.Double(0), api.OK)
	mustHave(t, x, "b", "d", "b")
	mustBe(t, "Double", x.Double(1), api.OK)
	mustHave(t, x, "b", "d", "b", "d")
	mustBe(t, "Send", x.Send("f"), api.OK)
	mustHave(t, x, "b", "d", "b", "d", "f")
	mustBe(t, "Double", x.Double(4), api.OK)
	mustHave(t, x, "b", "d", "b", "d", "f", "f")
	for _, s := range []string{"b", "d", "b", "d", "f", "f"} {
		mustTake(t, x, 0, s)
	}
	mustHave(t, x)
	mustRefuse(t, x, 0)
	mustBe(t, "Send to none", x.Send("g"), api.OK)
	mustHave(t, x, "g")
}

func TestTakeAtEachPlace(t *testing.T) {
	for size := 1; size < 20; size++ {
		for n := range size {
			b := newBoth(t)
			for _, s := range numbered(size) {
				b.send(s)
			}
			b.take(n)
			b.check()
			b.send("new") // it lands behind those that moved up
			b.check()
		}
	}
}

func TestDoubleAtEachPlace(t *testing.T) {
	for size := 1; size < 20; size++ {
		for n := range size {
			b := newBoth(t)
			for _, s := range numbered(size) {
				b.send(s)
			}
			b.double(n)
			b.check()
			b.take(n) // the other one stays
			b.check()
			b.take(size - 1)
			b.check()
		}
	}
}

func TestPeekAtEachPlace(t *testing.T) {
	row := numbered(50)
	x := of(row...)
	for n := range row {
		mustPeek(t, x, n, row[n])
	}
	mustHave(t, x, row...)
}

func TestPlacesThatMayNotBe(t *testing.T) {
	for size := range 5 {
		row := numbered(size)
		x := of(row...)
		for _, n := range []int{-1, -2, -size, math.MinInt, size, size + 1, most, most + 1, math.MaxInt} {
			if n < 0 || n >= size {
				mustRefuse(t, x, n)
			}
		}
		mustHave(t, x, row...)
	}
}

func TestPlacesThatAreGone(t *testing.T) {
	x := of("a", "b", "c")
	mustTake(t, x, 0, "a")
	mustRefuse(t, x, 2) // its place was there
	mustTake(t, x, 1, "c")
	mustRefuse(t, x, 1)
	mustTake(t, x, 0, "b")
	mustRefuse(t, x, 0)
}

func TestTextsOfAllBytes(t *testing.T) {
	x := of(oddTexts...)
	mustHave(t, x, oddTexts...)
	for n, s := range oddTexts {
		mustPeek(t, x, n, s)
		mustBe(t, "Double", x.Double(n), api.OK)
	}
	mustHave(t, x, slices.Concat(oddTexts, oddTexts)...)
	for _, s := range oddTexts {
		mustTake(t, x, 0, s)
	}
	mustHave(t, x, oddTexts...)
}

func TestLengthsOfTexts(t *testing.T) {
	long := strings.Repeat("abc", longest)
	for _, c := range []struct {
		size int
		want api.Errno
	}{{0, api.OK}, {1, api.OK}, {longest - 1, api.OK}, {longest, api.OK}, {longest + 1, api.ErrRange}, {longest + 2, api.ErrRange}, {2 * longest, api.ErrRange}} {
		x := of("first")
		mustBe(t, "Send of "+strconv.Itoa(c.size), x.Send(long[:c.size]), c.want)
		if c.want != api.OK {
			mustHave(t, x, "first")
			continue
		}
		mustPeek(t, x, 1, long[:c.size])
		mustBe(t, "Double", x.Double(1), api.OK)
		mustHave(t, x, "first", long[:c.size], long[:c.size])
		mustTake(t, x, 1, long[:c.size])
		mustTake(t, x, 1, long[:c.size])
		mustHave(t, x, "first")
	}
}

func TestFullBySend(t *testing.T) {
	row := numbered(most)
	x := of(row[:most-1]...)
	mustHave(t, x, row[:most-1]...)
	mustBe(t, "the last", x.Send(row[most-1]), api.OK)
	mustHave(t, x, row...)
	for _, s := range []string{"", "x", strings.Repeat("x", longest)} {
		mustBe(t, "one too many", x.Send(s), api.ErrFull)
	}
	mustHave(t, x, row...)
}

func TestFullByDouble(t *testing.T) {
	row := numbered(most - 1)
	x := of(row...)
	mustBe(t, "the last", x.Double(7), api.OK)
	row = append(row, row[7])
	mustHave(t, x, row...)
	for _, n := range []int{0, 7, most / 2, most - 1} {
		mustBe(t, "one too many", x.Double(n), api.ErrFull)
	}
	mustBe(t, "Send", x.Send("x"), api.ErrFull)
	mustHave(t, x, row...)
}

func TestFullAndSomethingElse(t *testing.T) {
	row := numbered(most)
	x := of(row...)
	mustBe(t, "Send of too much", x.Send(strings.Repeat("x", longest+1)), api.ErrFull)
	for _, n := range []int{-1, math.MinInt, most, most + 1, math.MaxInt} {
		mustRefuse(t, x, n) // ErrArg, though it is full
	}
	mustTake(t, x, 9, row[9])
	mustBe(t, "Send of too much, not full", x.Send(strings.Repeat("x", longest+1)), api.ErrRange)
	mustHave(t, x, slices.Delete(row, 9, 10)...)
}

func TestFullAndTaken(t *testing.T) {
	for _, n := range []int{0, 1, most / 2, most - 1} {
		b := newBoth(t)
		for _, s := range numbered(most) {
			b.send(s)
		}
		b.take(n)
		b.send("one more")
		b.send("one too many")
		mustHave(t, b.x, b.m.row...)
		b.take(n)
		b.double(n / 2)
		b.double(n / 2)
		b.check()
	}
}

func TestFullMayBePeeked(t *testing.T) {
	row := numbered(most)
	x := of(row...)
	mustPeek(t, x, 0, row[0])
	mustPeek(t, x, most-1, row[most-1])
	mustBe(t, "Send", x.Send("x"), api.ErrFull) // to peek makes no room
}

func TestLongestTextDoubledUntilFull(t *testing.T) {
	long := strings.Repeat("x", longest)
	x := of(long)
	for n := range most - 1 {
		mustBe(t, "Double", x.Double(n), api.OK)
	}
	mustBe(t, "Double", x.Double(0), api.ErrFull)
	if n := x.Len(); n != most {
		t.Errorf("Len: %d", n)
	}
	mustTake(t, x, most-1, long)
	mustPeek(t, x, 0, long)
}

func TestNetsAreApart(t *testing.T) {
	a, b := of("x", "y"), net.New()
	mustHave(t, b)
	b.Send("z")
	mustTake(t, a, 0, "x")
	mustHave(t, a, "y")
	mustHave(t, b, "z")
	b.Double(0)
	mustHave(t, a, "y")
}

func TestZeroValue(t *testing.T) {
	x := new(net.Net)
	mustHave(t, x)
	mustRefuse(t, x, 0)
	mustBe(t, "Send", x.Send("a"), api.OK)
	mustHave(t, x, "a")
}

func TestNil(t *testing.T) {
	var x *net.Net
	for _, s := range []string{"", "a", strings.Repeat("a", longest+1)} {
		mustBe(t, "Send", x.Send(s), api.ErrArg)
	}
	for _, n := range []int{-1, 0, 1, math.MinInt, math.MaxInt} {
		mustRefuse(t, x, n)
	}
	if x.Len() != 0 || len(x.All()) != 0 {
		t.Errorf("Len %d, All %q", x.Len(), x.All())
	}
}

// R4: new memory, and nothing of what is handed in is kept.

func TestAllIsNew(t *testing.T) {
	x := of("a", "b", "c")
	l := x.All()
	other := x.All()
	l[0], l[2] = "z", "y"
	_ = append(l[:1], "w")
	mustHave(t, x, "a", "b", "c")
	if !slices.Equal(other, []string{"a", "b", "c"}) {
		t.Errorf("another answer: %q", other)
	}
	_ = append(other, "d")
	mustBe(t, "Send", x.Send("e"), api.OK)
	mustTake(t, x, 0, "a")
	mustHave(t, x, "b", "c", "e")
	if !slices.Equal(other, []string{"a", "b", "c"}) {
		t.Errorf("an answer changed: %q", other)
	}
}

func TestAllBehindItsEnd(t *testing.T) {
	x := of("a", "b", "c", "d", "e")
	mustTake(t, x, 1, "b")
	l := x.All()
	whole := l[:cap(l)]
	for i := range whole {
		whole[i] = "z"
	}
	x.Send("f")
	mustHave(t, x, "a", "c", "d", "e", "f")
}

func TestNothingOfATextIsKept(t *testing.T) {
	bytes := []byte("packet")
	s := unsafe.String(&bytes[0], len(bytes))
	x := of(s)
	x.Double(0)
	bytes[0] = 'X'
	mustHave(t, x, "packet", "packet")
	mustTake(t, x, 0, "packet")
	mustPeek(t, x, 0, "packet")
}

func TestTextsHandedOutAreNew(t *testing.T) {
	sent := strings.Clone("packet")
	x := of(sent)
	x.Double(0)
	x.Double(0)
	texts := []string{sent}
	for range 2 {
		texts = append(texts, x.All()...)
		for n := range x.Len() {
			s, _ := x.Peek(n)
			texts = append(texts, s)
		}
	}
	for range 3 {
		s, _ := x.Take(0)
		texts = append(texts, s)
	}
	seen := map[*byte]int{}
	for i, s := range texts {
		if s != "packet" {
			t.Fatalf("text %d: %q", i, s)
		}
		if j, was := seen[unsafe.StringData(s)]; was {
			t.Errorf("texts %d and %d share memory", j, i)
		}
		seen[unsafe.StringData(s)] = i
	}
}

// Promise 6.2.

func TestTakenInAnyOrder(t *testing.T) {
	r := rand.New(rand.NewPCG(6, 2))
	for range 50 {
		row := numbered(1 + r.IntN(200))
		x := of(row...)
		var taken []string
		for left := len(row); left > 0; left-- {
			n := r.IntN(left)
			peeked, _ := x.Peek(n)
			s, err := x.Take(n)
			mustGive(t, "Take", s, err, peeked, api.OK)
			taken = append(taken, s)
		}
		slices.Sort(taken)
		slices.Sort(row)
		if !slices.Equal(taken, row) {
			t.Fatalf("taken %q, sent %q", taken, row)
		}
		mustRefuse(t, x, 0)
	}
}

func TestTakenAsOftenAsSentAndDoubled(t *testing.T) {
	r := rand.New(rand.NewPCG(6, 3))
	for range 50 {
		x := net.New()
		due := map[string]int{} // how often each packet may still be taken
		for i := range 400 {
			switch r.IntN(4) {
			case 0:
				s := "p" + strconv.Itoa(i)
				mustBe(t, "Send", x.Send(s), api.OK)
				due[s]++
			case 1:
				n := r.IntN(x.Len() + 1)
				s, _ := x.Peek(n)
				if x.Double(n) == api.OK {
					due[s]++
				}
			default:
				s, err := x.Take(r.IntN(x.Len() + 1))
				if err != api.OK {
					continue
				}
				due[s]--
				if due[s] < 0 {
					t.Fatalf("%q taken too often", s)
				}
			}
		}
		for _, s := range x.All() {
			due[s]--
		}
		for s, n := range due {
			if n != 0 {
				t.Fatalf("%q: %d are lost", s, n)
			}
		}
	}
}

func TestRandomDeeds(t *testing.T) {
	r := rand.New(rand.NewPCG(6, 1))
	for range 200 {
		b := newBoth(t)
		for i := range 80 {
			n := r.IntN(len(b.m.row)+3) - 1
			switch r.IntN(6) {
			case 0, 1:
				b.send(strings.Repeat(strconv.Itoa(i), r.IntN(4)))
			case 2:
				b.take(n)
			case 3:
				b.double(n)
			case 4:
				b.peek(n)
			default:
				mustBe(t, "Send of too much", b.x.Send(strings.Repeat("x", longest+1+i)), api.ErrRange)
			}
			b.check()
		}
	}
}

// TestRandomDeedsNearFull goes to and fro over the edge.
func TestRandomDeedsNearFull(t *testing.T) {
	r := rand.New(rand.NewPCG(6, 4))
	b := newBoth(t)
	for _, s := range numbered(most - 2) {
		b.send(s)
	}
	for i := range 400 {
		n := r.IntN(len(b.m.row)+3) - 1
		switch r.IntN(5) {
		case 0, 1:
			b.take(n)
		case 2:
			b.double(n)
		default:
			b.send("n" + strconv.Itoa(i))
		}
		mustHave(t, b.x, b.m.row...)
	}
}

func FuzzDeeds(f *testing.F) {
	f.Add([]byte{0, 1, 0, 2, 1, 0, 2, 0, 3, 1})
	f.Fuzz(func(t *testing.T, script []byte) {
		b := newBoth(t)
		for i := 0; i+1 < len(script) && i < 200; i += 2 {
			n := int(int8(script[i+1]))
			switch script[i] % 4 {
			case 0:
				b.send(string(script[i+1:]))
			case 1:
				b.take(n)
			case 2:
				b.double(n)
			default:
				b.peek(n)
			}
		}
		b.check()
	})
}

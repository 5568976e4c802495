package clocks_test

import (
	"math"
	"math/big"
	"math/rand/v2"
	"slices"
	"strconv"
	"testing"

	"latchkey/api"
	"latchkey/clocks"
)

const (
	most   = 13      // clocks
	latest = 1 << 40 // that a clock may show
)

// oddInts lie at the edges of what a clock may show and of what an int holds, and beside them.
var oddInts = []int{math.MinInt, math.MinInt + 1, -latest - 1, -latest, -8, -1, 0, 1, 7, 8, 9, latest - 1, latest, latest + 1, math.MaxInt - latest, math.MaxInt - 1, math.MaxInt}

// model is clocks told as plainly as the chapter does, in numbers that no sum leaves.
type model struct {
	real *big.Int
	at   []*big.Int
}

func newModel(n int) *model {
	m := &model{real: new(big.Int)}
	for range n {
		m.at = append(m.at, new(big.Int))
	}
	return m
}

func (m *model) advance(real int, l []int) api.Errno {
	if real < 0 || len(l) != len(m.at) || slices.ContainsFunc(l, func(by int) bool { return by < 0 }) {
		return api.ErrArg
	}
	then := &model{real: sum(m.real, real)}
	late := isLate(then.real)
	for i, by := range l {
		then.at = append(then.at, sum(m.at[i], by))
		late = late || isLate(then.at[i])
	}
	if late {
		return api.ErrRange
	}
	*m = *then
	return api.OK
}

func (m *model) set(n, at int) api.Errno {
	for i := range m.at {
		if i == n && at >= 0 && !isLate(big.NewInt(int64(at))) {
			m.at[i] = big.NewInt(int64(at))
			return api.OK
		}
	}
	return api.ErrArg
}

func sum(a *big.Int, b int) *big.Int { return new(big.Int).Add(a, big.NewInt(int64(b))) }

func isLate(a *big.Int) bool { return a.Cmp(big.NewInt(latest)) > 0 }

// both is clocks and their model, to which the same is done.
type both struct {
	t *testing.T
	c *clocks.Clocks
	m *model
}

func newBoth(t *testing.T, n int) both {
	t.Helper()
	c := clocks.New(n)
	if c == nil {
		t.Fatalf("New %d: nil", n)
	}
	return both{t, c, newModel(n)}
}

func (b both) advance(real int, l ...int) {
	b.t.Helper()
	mustBe(b.t, "Go "+strconv.Itoa(real)+" "+told(l), b.c.Go(real, l), b.m.advance(real, l))
}

func (b both) set(n, at int) {
	b.t.Helper()
	mustBe(b.t, "Set "+told([]int{n, at}), b.c.Set(n, at), b.m.set(n, at))
}

// check holds all that the clocks tell against the model; of clocks that are not there too.
func (b both) check() {
	b.t.Helper()
	want := make([]int, len(b.m.at))
	for i, at := range b.m.at {
		want[i] = int(at.Int64())
	}
	mustTell(b.t, b.c, int(b.m.real.Int64()), want...)
}

func told(l []int) string {
	s := ""
	for _, n := range l {
		s += strconv.Itoa(n) + " "
	}
	return s
}

func mustBe(t *testing.T, what string, got, want api.Errno) {
	t.Helper()
	if got != want {
		t.Fatalf("%s: %d, want %d", what, got, want)
	}
}

// mustTell asks for real time, for all clocks, and for some that are not there.
func mustTell(t *testing.T, c *clocks.Clocks, real int, at ...int) {
	t.Helper()
	if got := c.Real(); got != real {
		t.Fatalf("Real: %d, want %d", got, real)
	}
	for n, want := range at {
		if got := c.At(n); got != want {
			t.Fatalf("At %d: %d, want %d", n, got, want)
		}
	}
	for _, n := range []int{math.MinInt, -latest, -13, -2, -1, len(at), len(at) + 1, 12 + len(at), 13 + len(at), latest, math.MaxInt} {
		if got := c.At(n); got != 0 {
			t.Fatalf("At %d of %d clocks: %d, want 0", n, len(at), got)
		}
	}
}

func mustBound(t *testing.T, real, by int, want bool) {
	t.Helper()
	if got := clocks.Bounded(real, by); got != want {
		t.Fatalf("Bounded %d, %d: %v, want %v", real, by, got, want)
	}
}

func mustScript(t *testing.T, l []api.Step, n, at int, err api.Errno) {
	t.Helper()
	if gotAt, gotErr := clocks.Script(l, n); gotAt != at || gotErr != err {
		t.Fatalf("Script of %d steps, %d clocks: %d %d, want %d %d", len(l), n, gotAt, gotErr, at, err)
	}
}

// bounded is Bounded as the chapter says it, in numbers that no product leaves.
func bounded(real, by int) bool {
	if real < 0 || by < 0 || real > latest || by > latest {
		return false
	}
	far := new(big.Int).Sub(big.NewInt(int64(real)), big.NewInt(int64(by)))
	return far.Abs(far).Mul(far, big.NewInt(8)).Cmp(big.NewInt(int64(real))) <= 0
}

// firstDrift is Script as the chapter says it.
func firstDrift(l []api.Step, n int) (int, api.Errno) {
	for i, s := range l {
		good := 0
		for _, by := range s.Clocks {
			if bounded(s.N, by) {
				good++
			}
		}
		if s.Kind == 5 && (len(s.Clocks) != max(n, 0) || good < len(s.Clocks)) {
			return i, api.ErrDrift
		}
	}
	return 0, api.OK
}

func pass(n int, l ...int) api.Step { return api.Step{Kind: api.StepTime, N: n, Clocks: l} }

func times(n, count int) []int { return slices.Repeat([]int{n}, count) }

// Promise 7.1.

func TestNew(t *testing.T) {
	for n := 1; n <= most; n++ {
		newBoth(t, n).check()
	}
	for _, n := range []int{0, 14, 15, 26, -1, -13, latest, -latest, math.MaxInt, math.MinInt, 1 << 32, 1<<32 + 1} {
		if clocks.New(n) != nil {
			t.Errorf("New %d: not nil", n)
		}
	}
}

func TestClocksGoOn(t *testing.T) {
	c := clocks.New(3)
	mustBe(t, "Go", c.Go(8, []int{9, 8, 7}), api.OK)
	mustTell(t, c, 8, 9, 8, 7)
	mustBe(t, "Go", c.Go(0, []int{0, 5, 0}), api.OK)
	mustTell(t, c, 8, 9, 13, 7)
	mustBe(t, "Go", c.Go(100, []int{0, 0, 0}), api.OK)
	mustTell(t, c, 108, 9, 13, 7)
	mustBe(t, "Set", c.Set(1, 2), api.OK)
	mustTell(t, c, 108, 9, 2, 7)
	mustBe(t, "Go", c.Go(1, []int{1, 1, 1}), api.OK)
	mustTell(t, c, 109, 10, 3, 8)
	mustBe(t, "Go", c.Go(0, []int{0, 0, 0}), api.OK)
	mustTell(t, c, 109, 10, 3, 8)
}

func TestClocksGoOnWhateverTheDrift(t *testing.T) {
	b := newBoth(t, 2)
	b.advance(0, 1000, 0)
	b.advance(1000, 0, 1)
	b.check()
	mustTell(t, b.c, 1000, 1000, 1)
}

func TestEachClockAlone(t *testing.T) {
	for n := 1; n <= most; n++ {
		b := newBoth(t, n)
		for i := range n {
			l := make([]int, n)
			l[i] = i + 1
			b.advance(i, l...)
			b.check()
		}
		for i := range n {
			b.set(i, 100*i)
			b.check()
		}
	}
}

func TestClocksOfTheirOwn(t *testing.T) {
	a, b := newBoth(t, 2), newBoth(t, 2)
	a.advance(5, 6, 7)
	b.check()
	b.set(0, 9)
	a.check()
	b.check()
}

func TestGoRefused(t *testing.T) {
	b := newBoth(t, 3)
	b.advance(1, 2, 3, 4)
	for _, x := range []struct {
		real int
		l    []int
	}{
		{-1, []int{0, 0, 0}}, {math.MinInt, []int{1, 1, 1}}, {-1, []int{1, 1}},
		{0, nil}, {0, []int{}}, {1, []int{1}}, {1, []int{1, 1}}, {1, []int{1, 1, 1, 1}}, {1, times(1, 13)}, {1, times(1, 300)},
		{1, []int{-1, 1, 1}}, {1, []int{1, -1, 1}}, {1, []int{1, 1, -1}}, {1, []int{1, 1, math.MinInt}}, {1, []int{-2, -3, -4}},
	} {
		mustBe(t, "Go "+strconv.Itoa(x.real)+" "+told(x.l), b.c.Go(x.real, x.l), api.ErrArg)
		mustTell(t, b.c, 1, 2, 3, 4)
	}
}

// Where both errors apply, it is the one that is named first.
func TestGoRefusedFirst(t *testing.T) {
	b := newBoth(t, 2)
	b.advance(1, 2, 3)
	for _, far := range []int{latest, math.MaxInt} {
		for _, x := range []struct {
			real int
			l    []int
		}{{-1, []int{far, 0}}, {far, []int{0}}, {far, []int{far, far, far}}, {0, []int{far, -1}}, {0, []int{-1, far}}, {far, []int{0, -1}}, {far, nil}} {
			mustBe(t, "Go "+strconv.Itoa(x.real)+" "+told(x.l), b.c.Go(x.real, x.l), api.ErrArg)
			mustTell(t, b.c, 1, 2, 3)
		}
	}
}

func TestGoToTheLatest(t *testing.T) {
	b := newBoth(t, 2)
	mustBe(t, "Go", b.c.Go(latest+1, []int{0, 0}), api.ErrRange)
	mustBe(t, "Go", b.c.Go(0, []int{latest + 1, 0}), api.ErrRange)
	mustBe(t, "Go", b.c.Go(0, []int{0, latest + 1}), api.ErrRange)
	mustTell(t, b.c, 0, 0, 0)
	mustBe(t, "Go", b.c.Go(latest, []int{latest, latest}), api.OK)
	mustTell(t, b.c, latest, latest, latest)
	mustBe(t, "Go", b.c.Go(0, []int{0, 0}), api.OK)
	for _, by := range []int{1, 2, latest, math.MaxInt - latest, math.MaxInt - latest + 1, math.MaxInt} {
		mustBe(t, "Go", b.c.Go(by, []int{0, 0}), api.ErrRange)
		mustBe(t, "Go", b.c.Go(0, []int{by, 0}), api.ErrRange)
		mustBe(t, "Go", b.c.Go(0, []int{0, by}), api.ErrRange)
		mustBe(t, "Go", b.c.Go(by, []int{by, by}), api.ErrRange)
		mustTell(t, b.c, latest, latest, latest)
	}
	mustBe(t, "Set", b.c.Set(1, latest-1), api.OK)
	mustBe(t, "Go", b.c.Go(0, []int{0, 2}), api.ErrRange)
	mustBe(t, "Go", b.c.Go(0, []int{0, 1}), api.OK)
	mustTell(t, b.c, latest, latest, latest)
}

// A number that is in order is not gone on by, if another, ahead of it or behind, is refused.
func TestGoAllOrNone(t *testing.T) {
	for n := 1; n <= most; n++ {
		for bad := range n + 1 {
			b := newBoth(t, n)
			b.advance(3, times(4, n)...)
			l, real := times(1, n), 1
			if bad == n {
				real = latest - 2
			} else {
				l[bad] = latest - 3
			}
			mustBe(t, "Go", b.c.Go(real, l), api.ErrRange)
			mustTell(t, b.c, 3, times(4, n)...)
			if bad == n {
				real--
			} else {
				l[bad]--
			}
			mustBe(t, "Go", b.c.Go(real, l), api.OK)
			b.m.advance(real, l)
			b.check()
		}
	}
}

func TestSet(t *testing.T) {
	b := newBoth(t, 3)
	b.advance(1, 2, 3, 4)
	for _, at := range []int{0, 1, latest - 1, latest, 7, 0} {
		mustBe(t, "Set", b.c.Set(1, at), api.OK)
		mustTell(t, b.c, 1, 2, at, 4)
	}
	mustBe(t, "Set", b.c.Set(1, 5), api.OK)
	for _, at := range []int{-1, -latest, math.MinInt, latest + 1, math.MaxInt} {
		mustBe(t, "Set", b.c.Set(1, at), api.ErrArg)
		mustTell(t, b.c, 1, 2, 5, 4)
	}
	for _, n := range []int{-1, 3, 4, 12, 13, latest, math.MaxInt, math.MinInt} {
		for _, at := range []int{5, 0, -1, latest + 1} {
			mustBe(t, "Set", b.c.Set(n, at), api.ErrArg)
			mustTell(t, b.c, 1, 2, 5, 4)
		}
	}
}

func TestAtOddPlaces(t *testing.T) {
	b := newBoth(t, most)
	b.advance(1, times(6, most)...)
	for _, n := range oddInts {
		want := 0
		if 0 <= n && n < most {
			want = 6
		}
		if got := b.c.At(n); got != want {
			t.Errorf("At %d: %d, want %d", n, got, want)
		}
	}
}

func TestOddNumbers(t *testing.T) {
	for _, first := range []int{0, 1, latest - 1, latest} {
		for _, real := range oddInts {
			for _, by := range oddInts {
				b := newBoth(t, 2)
				b.advance(first, first, 0)
				b.advance(real, by, 1)
				b.advance(real, 1, by)
				b.check()
				b.set(real, by)
				b.set(1, by)
				b.check()
			}
		}
	}
}

// What is handed in is not changed, what lies behind its end neither, and not kept.
func TestGoKeepsNothing(t *testing.T) {
	c := clocks.New(2)
	l := []int{1, 2, 77, 78}
	for _, real := range []int{5, 0, latest, -1, math.MaxInt} {
		c.Go(real, l[:2])
		c.Set(0, 3)
		c.Go(real, l)
		c.Go(real, l[:1])
		if !slices.Equal(l, []int{1, 2, 77, 78}) {
			t.Fatalf("Go %d changed its numbers: %v", real, l)
		}
	}
	c = clocks.New(2)
	l = []int{1, 2, 77, 78}
	mustBe(t, "Go", c.Go(5, l[:2]), api.OK)
	l[0], l[1] = 100, 200
	mustTell(t, c, 5, 1, 2)
	mustBe(t, "Go", c.Go(5, []int{10, 10}), api.OK)
	if !slices.Equal(l, []int{100, 200, 77, 78}) {
		t.Fatalf("Go wrote into numbers of a call ahead: %v", l)
	}
	mustTell(t, c, 10, 11, 12)
}

func TestNil(t *testing.T) {
	var c *clocks.Clocks
	for _, n := range oddInts {
		mustBe(t, "Go", c.Go(n, nil), api.ErrArg)
		mustBe(t, "Go", c.Go(n, []int{}), api.ErrArg)
		mustBe(t, "Go", c.Go(n, []int{n}), api.ErrArg)
		mustBe(t, "Set", c.Set(n, 0), api.ErrArg)
		mustBe(t, "Set", c.Set(0, n), api.ErrArg)
		if c.At(n) != 0 {
			t.Errorf("At %d of nil: %d", n, c.At(n))
		}
	}
	if c.Real() != 0 {
		t.Errorf("Real of nil: %d", c.Real())
	}
}

func TestZeroValue(t *testing.T) {
	c := new(clocks.Clocks)
	mustTell(t, c, 0)
	mustBe(t, "Set", c.Set(0, 0), api.ErrArg)
	mustBe(t, "Go", c.Go(0, []int{0}), api.ErrArg)
}

// Deeds at random: clocks and model never differ.
func TestRandomDeeds(t *testing.T) {
	for seed := range uint64(200) {
		r := rand.New(rand.NewPCG(seed, 7))
		n := 1 + r.IntN(most)
		b := newBoth(t, n)
		for range 120 {
			if r.IntN(4) == 0 {
				b.set(r.IntN(n+2)-1, number(r))
			} else {
				l := make([]int, n)
				for i := range l {
					l[i] = r.IntN(1 << 34)
				}
				if r.IntN(3) == 0 {
					l[r.IntN(n)] = number(r)
				}
				b.advance(r.IntN(1<<36), l[:max(0, n-r.IntN(30)/29)]...)
			}
			b.check()
		}
	}
}

// number is mostly one that a clock may show, else any.
func number(r *rand.Rand) int {
	switch r.IntN(4) {
	case 0:
		return oddInts[r.IntN(len(oddInts))]
	case 1:
		return int(r.Uint64())
	case 2:
		return latest - r.IntN(1<<37)
	}
	return r.IntN(1000)
}

// Promise 7.2.

func TestBoundedExamples(t *testing.T) {
	mustBound(t, 8, 9, true)
	mustBound(t, 8, 7, true)
	mustBound(t, 8, 10, false)
	mustBound(t, 7, 8, false)
	mustBound(t, 8, 8, true)
	mustBound(t, 8, 6, false)
	mustBound(t, 7, 6, false)
	mustBound(t, 7, 7, true)
	mustBound(t, 9, 8, true)
	mustBound(t, 15, 17, false)
	mustBound(t, 16, 18, true)
	mustBound(t, 16, 14, true)
	mustBound(t, 700, 787, true)
	mustBound(t, 700, 788, false)
	mustBound(t, 700, 613, true)
	mustBound(t, 700, 612, false)
}

func TestBoundedEdges(t *testing.T) {
	mustBound(t, 0, 0, true)
	mustBound(t, 0, 1, false)
	mustBound(t, 1, 0, false)
	mustBound(t, 1, 1, true)
	mustBound(t, -1, -1, false)
	mustBound(t, 0, -1, false)
	mustBound(t, -1, 0, false)
	mustBound(t, 8, -1, false)
	mustBound(t, -8, -8, false)
	mustBound(t, latest, latest, true)
	mustBound(t, latest, latest+1, false)
	mustBound(t, latest+1, latest, false)
	mustBound(t, latest+1, latest+1, false)
	mustBound(t, latest, latest-latest/8, true)
	mustBound(t, latest, latest-latest/8-1, false)
	mustBound(t, latest, latest+latest/8, false)
	mustBound(t, latest-latest/9, latest, true)
	mustBound(t, latest/9*8, latest, false)
	mustBound(t, latest, 0, false)
	mustBound(t, 0, latest, false)
	for _, far := range []int{math.MinInt, math.MaxInt, math.MinInt + 1, math.MaxInt - 1, 1 << 61, 1 << 60, -1 << 61} {
		mustBound(t, far, far, false)
		mustBound(t, far, 0, false)
		mustBound(t, 0, far, false)
		mustBound(t, 8, far, false)
		mustBound(t, far, 8, false)
		mustBound(t, far, -far, false)
		mustBound(t, latest, far, false)
		mustBound(t, far, latest, false)
	}
}

func TestBoundedOfSmallAndOdd(t *testing.T) {
	for real := -3; real < 150; real++ {
		for by := -3; by < 200; by++ {
			mustBound(t, real, by, bounded(real, by))
		}
	}
	for _, real := range oddInts {
		for _, by := range oddInts {
			mustBound(t, real, by, bounded(real, by))
		}
	}
}

// Where the bound lies, on both sides, for real times of all sizes.
func TestBoundedBothSides(t *testing.T) {
	r := rand.New(rand.NewPCG(2, 7))
	for range 20000 {
		real := r.IntN(latest+1) >> r.IntN(40)
		for off := -2; off <= 2; off++ {
			for _, by := range []int{real + real/8 + off, real - real/8 + off} {
				mustBound(t, real, by, bounded(real, by))
			}
		}
		mustBound(t, real, real+real/8, real+real/8 <= latest)
		mustBound(t, real, real-real/8, true)
		mustBound(t, real, real+real/8+1, false)
		mustBound(t, real, real-real/8-1, false)
	}
}

func TestScriptWithoutDrift(t *testing.T) {
	for n := 0; n <= most; n++ {
		mustScript(t, nil, n, 0, api.OK)
		mustScript(t, []api.Step{}, n, 0, api.OK)
		mustScript(t, []api.Step{pass(8, times(9, n)...)}, n, 0, api.OK)
		mustScript(t, []api.Step{pass(8, times(7, n)...), {Kind: api.StepTick}, pass(0, times(0, n)...), pass(latest, times(latest, n)...)}, n, 0, api.OK)
	}
	mustScript(t, []api.Step{pass(8, 7, 8, 9)}, 3, 0, api.OK)
}

func TestScriptOfOtherKinds(t *testing.T) {
	for kind := -1; kind < 12; kind++ {
		if kind == api.StepTime {
			continue
		}
		l := []api.Step{{Kind: kind}, {Kind: kind, N: -1, Clocks: []int{5}}, {Kind: kind, N: 8, Tear: 5, Clocks: []int{100, 0}}}
		for _, n := range []int{-1, 0, 1, 2, 13} {
			mustScript(t, l, n, 0, api.OK)
		}
		mustScript(t, append(l, pass(8, 100)), 1, 3, api.ErrDrift)
		mustScript(t, append(l, pass(8, 8)), 1, 0, api.OK)
	}
	for _, kind := range []int{math.MinInt, math.MaxInt, api.StepTime + 1<<32, -api.StepTime} {
		mustScript(t, []api.Step{{Kind: kind, N: 8, Clocks: []int{100}}}, 1, 0, api.OK)
	}
}

func TestScriptCounts(t *testing.T) {
	for n := 0; n <= most; n++ {
		for have := 0; have <= most+1; have++ {
			l := []api.Step{{}, pass(8, times(8, n)...), pass(8, times(8, have)...), {}}
			if have == n {
				mustScript(t, l, n, 0, api.OK)
			} else {
				mustScript(t, l, n, 2, api.ErrDrift)
			}
		}
	}
	mustScript(t, []api.Step{pass(8)}, 1, 0, api.ErrDrift)
	mustScript(t, []api.Step{{Kind: api.StepTime, N: 8, Clocks: []int{}}}, 1, 0, api.ErrDrift)
	mustScript(t, []api.Step{pass(8, 8)}, 14, 0, api.ErrDrift)
	mustScript(t, []api.Step{pass(8, times(8, 14)...)}, 14, 0, api.OK)
	mustScript(t, []api.Step{pass(8, 8)}, math.MaxInt, 0, api.ErrDrift)
}

// A count below 0 counts as 0; of no clocks all are bounded, whatever N is.
func TestScriptOfNoClocks(t *testing.T) {
	for _, n := range []int{0, -1, -2, -13, math.MinInt} {
		mustScript(t, nil, n, 0, api.OK)
		mustScript(t, []api.Step{pass(8), {Kind: api.StepTime, N: 8, Clocks: []int{}}}, n, 0, api.OK)
		mustScript(t, []api.Step{pass(-1), pass(latest + 1), pass(math.MinInt)}, n, 0, api.OK)
		mustScript(t, []api.Step{{}, pass(8, 8)}, n, 1, api.ErrDrift)
		mustScript(t, []api.Step{pass(8, 8, 8), pass(8)}, n, 0, api.ErrDrift)
	}
}

// The step that drifts stands at the first, a middle, the last place, and so does its clock.
func TestScriptPlaces(t *testing.T) {
	for _, bad := range []api.Step{pass(8, 10, 8, 8), pass(8, 8, 10, 8), pass(8, 8, 8, 6), pass(-1, 0, 0, 0), pass(latest+1, latest, latest, latest), pass(7, 7, 7, 8), pass(8, 8, 8), pass(8, 8, 8, 8, 8), pass(8)} {
		for at := range 7 {
			l := slices.Repeat([]api.Step{pass(8, 7, 8, 9)}, 7)
			mustScript(t, l, 3, 0, api.OK)
			l[at] = bad
			mustScript(t, l, 3, at, api.ErrDrift)
			l[6] = pass(0)
			mustScript(t, l, 3, at, api.ErrDrift)
			l[0], l[1] = api.Step{}, api.Step{Kind: api.StepTick, Clocks: []int{1}}
			if at > 1 {
				mustScript(t, l, 3, at, api.ErrDrift)
			}
		}
	}
}

// A clock that drifts is found at each place of a step.
func TestScriptEachClock(t *testing.T) {
	for n := 1; n <= most; n++ {
		for at := range n {
			for _, by := range []int{6, 10, -1, latest + 1, math.MinInt, math.MaxInt} {
				l := []api.Step{{}, pass(8, times(8, n)...), pass(8, times(8, n)...)}
				l[1].Clocks[at] = by
				mustScript(t, l, n, 1, api.ErrDrift)
				l[1].Clocks[at] = 9
				mustScript(t, l, n, 0, api.OK)
			}
		}
	}
}

func TestScriptAtRandom(t *testing.T) {
	r := rand.New(rand.NewPCG(3, 7))
	drifts := 0
	for range 20000 {
		n := r.IntN(5) - 1
		l := make([]api.Step, r.IntN(9))
		for i := range l {
			l[i] = api.Step{Kind: 4 + r.IntN(2), N: 64 + r.IntN(8), Clocks: make([]int, max(n, 0))}
			for k := range l[i].Clocks {
				l[i].Clocks[k] = l[i].N + r.IntN(19) - 9
			}
			if r.IntN(20) == 0 {
				l[i].Clocks = append(l[i].Clocks, l[i].N)
			}
		}
		at, err := firstDrift(l, n)
		mustScript(t, l, n, at, err)
		if err != api.OK {
			drifts++
		}
	}
	if drifts < 2000 || drifts > 18000 {
		t.Errorf("%d of 20000 scripts drift: they tell too little", drifts)
	}
}

func TestScriptChangesNothing(t *testing.T) {
	room := []int{8, 10, 8, 77}
	l := []api.Step{{Kind: api.StepTick, N: 3, Tear: 4, Clocks: room[3:]}, pass(8, room[:1]...), {Kind: api.StepTime, N: 8, Clocks: room[:2]}, {Kind: 88}}
	for n := -1; n < 4; n++ {
		clocks.Script(l[:3], n)
	}
	if !slices.Equal(room, []int{8, 10, 8, 77}) || l[0].N != 3 || l[0].Tear != 4 || l[1].N != 8 || l[2].N != 8 || len(l[1].Clocks) != 1 || len(l[2].Clocks) != 2 || l[3].Kind != 88 {
		t.Errorf("Script changed what it was handed: %v %v", room, l)
	}
}

// Promise 7.3.

// piece is a real time and a clock's that are bounded, as far off as they may be or less, and so short that many stay within the latest.
func piece(r *rand.Rand) (int, int) {
	real := r.IntN(1<<32) >> r.IntN(33)
	switch far := real / 8; r.IntN(4) {
	case 0:
		return real, real + far
	case 1:
		return real, real - far
	default:
		return real, real - far + r.IntN(2*far+1)
	}
}

func TestSumsOfBoundedAreBounded(t *testing.T) {
	for seed := range uint64(300) {
		r := rand.New(rand.NewPCG(seed, 73))
		real, by := 0, 0
		for range 100 {
			moreReal, moreBy := piece(r)
			mustBound(t, moreReal, moreBy, true)
			real, by = real+moreReal, by+moreBy
			mustBound(t, real, by, true)
		}
	}
}

// All pieces one way: the whole is as far off as it may be, and no farther.
func TestFarthestSums(t *testing.T) {
	for _, way := range []int{1, -1} {
		real, by := 0, 0
		for i := range 1000 {
			more := 8 * i
			mustBound(t, more, more+way*i, true)
			real, by = real+more, by+more+way*i
			mustBound(t, real, by, true)
			mustBound(t, real, by+way, false)
		}
	}
}

func TestSmallSums(t *testing.T) {
	for a := range 30 {
		for x := range 40 {
			for b := 0; b < 30 && clocks.Bounded(a, x); b++ {
				for y := range 40 {
					if clocks.Bounded(b, y) {
						mustBound(t, a+b, x+y, true)
					}
				}
			}
		}
	}
}

// Clocks that go by a script without drift are bounded by real time, at each step and from each step to each later one.
func TestClocksOfABoundedScript(t *testing.T) {
	for seed := range uint64(60) {
		r := rand.New(rand.NewPCG(seed, 74))
		n := 1 + r.IntN(most)
		var l []api.Step
		for range 25 {
			l = append(l, randomPass(r, n), api.Step{Kind: api.StepTick, N: r.IntN(n)})
		}
		mustScript(t, l, n, 0, api.OK)
		c := clocks.New(n)
		seen := [][]int{make([]int, n+1)}
		for _, s := range l {
			if s.Kind != api.StepTime {
				continue
			}
			mustBe(t, "Go", c.Go(s.N, s.Clocks), api.OK)
			now := []int{c.Real()}
			for i := range n {
				now = append(now, c.At(i))
			}
			for _, past := range seen {
				for i := range n {
					mustBound(t, now[0]-past[0], now[1+i]-past[1+i], true)
				}
			}
			seen = append(seen, now)
		}
	}
}

// randomPass is a step at which n clocks go on, all of them bounded.
func randomPass(r *rand.Rand, n int) api.Step {
	real, _ := piece(r)
	s := api.Step{Kind: api.StepTime, N: real}
	for range n {
		s.Clocks = append(s.Clocks, real-real/8+r.IntN(2*(real/8)+1))
	}
	return s
}

func FuzzBounded(f *testing.F) {
	for _, n := range oddInts {
		f.Add(n, n)
		f.Add(n, n+1)
	}
	f.Fuzz(func(t *testing.T, real, by int) {
		mustBound(t, real, by, bounded(real, by))
	})
}

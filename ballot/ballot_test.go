package ballot_test

import (
	"math"
	"math/big"
	"math/bits"
	"math/rand/v2"
	"slices"
	"testing"

	"latchkey/api"
	"latchkey/ballot"
)

const (
	servers  = 5
	greatest = 1 << 40 // ballot
	topRound = 1 << 37 // of server 0, whose ballot is the greatest
)

// oddIds are servers' numbers, and such as no server has.
var oddIds = []int{math.MinInt, math.MinInt + 1, -greatest, -8, -5, -4, -3, -2, -1, 0, 1, 2, 3, 4, 5, 6, 7, 8, 9, 12, 16, greatest, math.MaxInt - 7, math.MaxInt - 1, math.MaxInt}

// oddRounds lie at the edges of what a round may be and of what its product leaves an int, and beside them.
func oddRounds() []int {
	return beside(20, math.MinInt, math.MinInt/8, -topRound, 0, topRound, greatest, 1<<60, 1<<61, math.MaxInt)
}

// oddNumbers lie at the edges of what a ballot may be, and beside them.
func oddNumbers() []int {
	return beside(40, math.MinInt, -greatest, 0, 1<<20, 1<<31, 1<<32, greatest, 2*greatest, math.MaxInt)
}

// beside gives the numbers of l and those that lie up to far below or above one of them.
func beside(far int, l ...int) []int {
	var all []int
	for _, n := range l {
		for by := -far; by <= far; by++ {
			if at := n + by; (at < n) == (by < 0) { // not beyond the ints
				all = append(all, at)
			}
		}
	}
	return all
}

// isBallot is a ballot by the chapter's words.
func isBallot(b int) bool { return b >= 1 && b <= greatest && b%8 <= 4 }

// plainOf is Of by the chapter's words, in numbers that no product leaves.
func plainOf(round, id int) int {
	if round < 0 || id < 0 || id > 4 {
		return 0
	}
	b := big.NewInt(int64(round))
	b.Mul(b, big.NewInt(8)).Add(b, big.NewInt(int64(id)))
	if !b.IsInt64() || !isBallot(int(b.Int64())) {
		return 0
	}
	return int(b.Int64())
}

// plainNext goes over the numbers above b one by one, until there is a ballot of the server.
func plainNext(b, id int) int {
	if id < 0 || id > 4 {
		return 0
	}
	for at := max(b, 0); at < greatest; {
		at++
		if isBallot(at) && at%8 == id {
			return at
		}
	}
	return 0
}

func mustOf(t *testing.T, round, id, want int) {
	t.Helper()
	if got := ballot.Of(round, id); got != want {
		t.Fatalf("Of %d %d: %d, not %d", round, id, got, want)
	}
}

func mustNext(t *testing.T, b, id, want int) {
	t.Helper()
	if got := ballot.Next(b, id); got != want {
		t.Fatalf("Next %d %d: %d, not %d", b, id, got, want)
	}
}

// mustBe looks whether b has that round and that server's number, or -1 of both.
func mustBe(t *testing.T, b, round, id int) {
	t.Helper()
	if got := ballot.Round(b); got != round {
		t.Fatalf("Round %d: %d, not %d", b, got, round)
	}
	if got := ballot.Id(b); got != id {
		t.Fatalf("Id %d: %d, not %d", b, got, id)
	}
}

func mustMajority(t *testing.T, n, want int) {
	t.Helper()
	if got := ballot.Majority(n); got != want {
		t.Fatalf("Majority %d: %d, not %d", n, got, want)
	}
}

// Promise 14.1.

func TestExamples(t *testing.T) {
	mustOf(t, 2, 1, 17)
	mustNext(t, 17, 0, 24)
	mustNext(t, 17, 2, 18)
	mustOf(t, 0, 0, 0)
	mustMajority(t, 3, 2)
	mustMajority(t, 4, 3)
}

// The tests' 5 servers and 2^40 are those of api.
func TestLimits(t *testing.T) {
	if api.MaxServers != servers || api.MaxBallot != greatest {
		t.Fatalf("%d servers, ballots to %d", api.MaxServers, api.MaxBallot)
	}
}

// Rounds and servers one by one: the ballots rise, each has its round and its server, and leads each server to that server's next.
func TestOneByOne(t *testing.T) {
	last := 0
	for round := range 300 {
		for id := range servers {
			if round == 0 && id == 0 {
				continue // none
			}
			b := ballot.Of(round, id)
			if b <= last || b != 8*round+id {
				t.Fatalf("Of %d %d: %d behind %d", round, id, b, last)
			}
			mustBe(t, b, round, id)
			for other := range servers {
				if other > id {
					mustNext(t, b, other, 8*round+other)
				} else {
					mustNext(t, b, other, 8*round+8+other)
				}
			}
			last = b
		}
	}
}

func TestOfAtTheEdges(t *testing.T) {
	for _, x := range [][3]int{
		{0, 0, 0}, {0, 1, 1}, {0, 2, 2}, {0, 3, 3}, {0, 4, 4}, {0, 5, 0}, {0, 7, 0}, {0, 8, 0}, {0, -1, 0},
		{1, 0, 8}, {1, 4, 12}, {1, 5, 0}, {1, 7, 0}, {1, 8, 0}, {1, -1, 0}, {1, -4, 0}, {1, math.MaxInt, 0}, {1, math.MinInt, 0},
		{-1, 0, 0}, {-1, 4, 0}, {-1, 8, 0}, {-1, 9, 0}, {-topRound, 0, 0}, {math.MinInt, 0, 0}, {math.MinInt, 4, 0},
		{topRound - 1, 0, greatest - 8}, {topRound - 1, 1, greatest - 7}, {topRound - 1, 4, greatest - 4}, {topRound - 1, 5, 0}, {topRound - 1, 8, 0},
		{topRound, 0, greatest}, {topRound, 1, 0}, {topRound, 2, 0}, {topRound, 3, 0}, {topRound, 4, 0}, {topRound, -1, 0},
		{topRound + 1, 0, 0}, {topRound + 1, -8, 0}, {math.MaxInt, 0, 0}, {math.MaxInt, 4, 0}, {math.MaxInt, math.MaxInt, 0}, {math.MinInt, math.MinInt, 0},
		{1 << 60, 1, 0}, {1 << 61, 1, 0}, {1<<61 + 2, 1, 0}, {1 << 62, 4, 0}, // their products by 8 are no ints, or wrap round to a ballot's
		{-1 << 61, 1, 0}, {-1<<61 + 2, 1, 0}, {-1 << 62, 1, 0},
	} {
		mustOf(t, x[0], x[1], x[2])
	}
	for _, round := range oddRounds() {
		for _, id := range oddIds {
			mustOf(t, round, id, plainOf(round, id))
		}
	}
}

func TestRoundAndIdAtTheEdges(t *testing.T) {
	for _, x := range [][3]int{
		{0, -1, -1}, {1, 0, 1}, {2, 0, 2}, {3, 0, 3}, {4, 0, 4}, {5, -1, -1}, {6, -1, -1}, {7, -1, -1}, {8, 1, 0}, {9, 1, 1}, {12, 1, 4}, {13, -1, -1}, {15, -1, -1}, {16, 2, 0}, {17, 2, 1},
		{-1, -1, -1}, {-4, -1, -1}, {-7, -1, -1}, {-8, -1, -1}, {-17, -1, -1}, {-greatest, -1, -1}, {math.MinInt, -1, -1}, {math.MinInt + 1, -1, -1},
		{greatest - 8, topRound - 1, 0}, {greatest - 5, topRound - 1, 3}, {greatest - 4, topRound - 1, 4}, {greatest - 3, -1, -1}, {greatest - 1, -1, -1},
		{greatest, topRound, 0}, {greatest + 1, -1, -1}, {greatest + 8, -1, -1}, {1 << 62, -1, -1}, {math.MaxInt - 7, -1, -1}, {math.MaxInt, -1, -1},
	} {
		mustBe(t, x[0], x[1], x[2])
	}
	for _, b := range oddNumbers() {
		if isBallot(b) {
			mustBe(t, b, b/8, b%8)
		} else {
			mustBe(t, b, -1, -1)
		}
	}
}

func TestNextAtTheEdges(t *testing.T) {
	for _, x := range [][3]int{
		{0, 0, 8}, {0, 1, 1}, {0, 4, 4}, {1, 0, 8}, {1, 1, 9}, {1, 2, 2}, {4, 3, 11}, {4, 4, 12}, {5, 0, 8}, {5, 4, 12}, {6, 4, 12}, {7, 0, 8}, {7, 4, 12}, {8, 0, 16}, {8, 1, 9},
		{-1, 0, 8}, {-1, 1, 1}, {-5, 3, 3}, {-8, 0, 8}, {-9, 4, 4}, {-17, 0, 8}, {-greatest, 2, 2}, {math.MinInt, 0, 8}, {math.MinInt, 4, 4}, {math.MinInt + 1, 1, 1},
		{17, 1, 25}, {17, -1, 0}, {17, 5, 0}, {17, 7, 0}, {17, 8, 0}, {17, math.MaxInt, 0}, {17, math.MinInt, 0}, {-1, 5, 0}, {-1, -1, 0}, {0, 8, 0}, {0, -8, 0},
		{greatest - 16, 0, greatest - 8}, {greatest - 8, 0, greatest}, {greatest - 8, 1, greatest - 7}, {greatest - 8, 4, greatest - 4}, // one more, or two
		{greatest - 7, 0, greatest}, {greatest - 7, 1, 0}, {greatest - 5, 3, 0}, {greatest - 5, 4, greatest - 4}, {greatest - 4, 4, 0}, {greatest - 4, 0, greatest},
		{greatest - 1, 0, greatest}, {greatest - 1, 1, 0}, {greatest - 1, 4, 0}, {greatest - 1, 7, 0},
		{greatest, 0, 0}, {greatest, 1, 0}, {greatest, 4, 0}, {greatest + 1, 0, 0}, {greatest + 1, 4, 0}, {1 << 61, 1, 0}, {1 << 62, 1, 0},
		{math.MaxInt - 7, 4, 0}, {math.MaxInt, 0, 0}, {math.MaxInt, 4, 0}, {math.MaxInt, math.MaxInt, 0}, {math.MinInt, math.MinInt, 0},
	} {
		mustNext(t, x[0], x[1], x[2])
	}
	for _, b := range oddNumbers() {
		for _, id := range oddIds {
			mustNext(t, b, id, plainNext(b, id))
		}
	}
}

// No ballot of the server lies between b and the next, nor behind b, where there is no next. (A round is looked over, and one more: each has a ballot of the server, but the first and the last.)
func TestNothingBetween(t *testing.T) {
	for _, b := range oddNumbers() {
		for id := range servers {
			next := ballot.Next(b, id)
			above := max(b, 0)
			end := min(above, math.MaxInt-16) + 16
			if next != 0 {
				if next <= above || next > end || ballot.Id(next) != id {
					t.Fatalf("Next %d %d: %d, of server %d", b, id, next, ballot.Id(next))
				}
				end = next - 1
			}
			for at := above; at < end; {
				at++
				if ballot.Id(at) == id {
					t.Fatalf("Next %d %d: %d, but %d lies between", b, id, next, at)
				}
			}
		}
	}
}

// Next of Next goes over all ballots of a server, to the last.
func TestNextOfNext(t *testing.T) {
	for id := range servers {
		b := 0
		for round := range 1000 {
			if round > 0 || id > 0 {
				b = ballot.Next(b, id)
				mustBe(t, b, round, id)
			}
		}
		b = greatest - 801
		for round := topRound - 100; b != 0; round++ {
			mustNext(t, b, id, plainOf(round, id))
			b = plainOf(round, id)
		}
	}
}

func TestAgainstThePlainWords(t *testing.T) {
	r := rand.New(rand.NewPCG(14, 1))
	for range 20000 {
		n := int(r.Uint64() >> r.IntN(64))
		if r.IntN(4) == 0 {
			n = -n
		}
		id := r.IntN(8) - 1
		mustOf(t, n, id, plainOf(n, id))
		mustOf(t, n%(topRound+1), id, plainOf(n%(topRound+1), id))
		mustNext(t, n, id, plainNext(n, id))
		if isBallot(n) {
			mustBe(t, n, n/8, n%8)
			mustOf(t, ballot.Round(n), ballot.Id(n), n)
		} else {
			mustBe(t, n, -1, -1)
		}
	}
}

func TestMajorityAtTheEdges(t *testing.T) {
	for _, x := range [][2]int{
		{math.MinInt, 1}, {math.MinInt + 1, 1}, {-greatest, 1}, {-5, 1}, {-4, 1}, {-3, 1}, {-2, 1}, {-1, 1}, {0, 1}, {1, 1}, {2, 2}, {3, 2}, {4, 3}, {5, 3}, {6, 4}, {7, 4},
		{greatest, greatest/2 + 1}, {math.MaxInt - 1, 1 << 62}, {math.MaxInt, 1 << 62},
	} {
		mustMajority(t, x[0], x[1])
	}
}

// A majority is the least count that is more than a half.
func TestMoreThanAHalf(t *testing.T) {
	for _, n := range slices.Concat(beside(500, 501), []int{greatest, math.MaxInt - 2, math.MaxInt - 1, math.MaxInt}) {
		m := ballot.Majority(n)
		if m < 1 || m > n || m <= n-m || m-1 > n-(m-1) {
			t.Fatalf("Majority %d: %d", n, m)
		}
	}
}

// Promise 14.2.

func TestNoBallotInCommon(t *testing.T) {
	type owner struct{ round, id int }
	owners := map[int]owner{}
	for _, round := range slices.Concat(beside(200, 200), oddRounds()) {
		for _, id := range oddIds {
			b := ballot.Of(round, id)
			if b == 0 {
				continue
			}
			if was, there := owners[b]; there && was != (owner{round, id}) {
				t.Fatalf("%d is the ballot of %v and of %v", b, was, owner{round, id})
			}
			owners[b] = owner{round, id}
		}
	}
	if len(owners) < 400*servers {
		t.Fatalf("%d ballots alone", len(owners))
	}
}

// What is the next of one server is not the next of another, wherever the two begin.
func TestNoNextInCommon(t *testing.T) {
	owners := map[int]int{}
	for _, b := range oddNumbers() {
		for id := range servers {
			next := ballot.Next(b, id)
			if next == 0 {
				continue
			}
			if was, there := owners[next]; there && was != id {
				t.Fatalf("%d is the next of server %d and of server %d", next, was, id)
			}
			owners[next] = id
		}
	}
}

// Of n servers, sets of as many as are a majority, all of them, two by two.
func TestMajoritiesShareOne(t *testing.T) {
	for n := 1; n <= 9; n++ {
		m := ballot.Majority(n)
		var sets []uint
		for set := range uint(1) << n {
			if bits.OnesCount(set) >= m {
				sets = append(sets, set)
			}
		}
		if len(sets) == 0 {
			t.Fatalf("%d servers have no %d", n, m)
		}
		for _, a := range sets {
			for _, b := range sets {
				if a&b == 0 {
					t.Fatalf("of %d servers, %b and %b share none", n, a, b)
				}
			}
		}
	}
}

// Two counts of a majority are more than all servers, so that two of them must share one, however many there are.
func TestTwoMajoritiesAreMoreThanAll(t *testing.T) {
	for _, n := range []int{1, 2, 3, 4, 5, 1000, 1001, greatest, math.MaxInt - 1, math.MaxInt} {
		m := uint64(ballot.Majority(n))
		if m+m <= uint64(n) || m > uint64(n) {
			t.Fatalf("Majority %d: %d", n, m)
		}
	}
}

// Rule R5: what is answered hangs on the arguments alone.
func TestTheSameAgain(t *testing.T) {
	type answers struct{ of, round, id, next, majority int }
	told := func() []answers {
		var l []answers
		for _, n := range oddNumbers() {
			for _, id := range oddIds {
				l = append(l, answers{ballot.Of(n, id), ballot.Round(n), ballot.Id(n), ballot.Next(n, id), ballot.Majority(n)})
			}
		}
		return l
	}
	if !slices.Equal(told(), told()) {
		t.Fatal("other answers the second time")
	}
}

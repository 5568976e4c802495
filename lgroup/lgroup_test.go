package lgroup_test

import (
	"math"
	"math/rand/v2"
	"slices"
	"testing"

	"latchkey/api"
	"latchkey/lgroup"
)

// belowZero are no tasks.
var belowZero = []int{-1, -2, -1000, math.MinInt32, math.MinInt + 1, math.MinInt}

// oddTasks are tasks at the edges of what an int holds, beside others.
var oddTasks = []int{0, 1, 2, 63, 64, api.MaxCount, api.MaxCount + 1, math.MaxInt32, math.MaxInt - 1, math.MaxInt}

// farAway are numbers that no Add takes, whatever the count is.
var farAway = []int{
	api.MaxCount + 1, api.MaxCount + 2, 2 * api.MaxCount, math.MaxInt32, math.MaxInt - 1, math.MaxInt,
	-api.MaxCount - 1, -api.MaxCount - 2, -2 * api.MaxCount, math.MinInt32, math.MinInt + 1, math.MinInt,
}

// groupModel is a waitgroup told as plainly as the chapter does.
type groupModel struct {
	count int64
	row   []int
}

func (m *groupModel) add(n int) ([]int, api.Errno) {
	if n > 1<<30 || n < -(1<<30) || m.count+int64(n) > 1<<30 {
		return nil, api.ErrRange
	}
	if m.count+int64(n) < 0 {
		return nil, api.ErrNegative
	}
	m.count += int64(n)
	if m.count != 0 {
		return nil, api.OK
	}
	row := m.row
	m.row = nil
	return row, api.OK
}

func (m *groupModel) wait(task int) (bool, api.Errno) {
	if task < 0 {
		return false, api.ErrArg
	}
	if slices.Contains(m.row, task) {
		return false, api.ErrHeld
	}
	if m.count == 0 {
		return true, api.OK
	}
	m.row = append(m.row, task)
	return false, api.OK
}

// groupBoth is a waitgroup and its model, to which the same is done.
type groupBoth struct {
	t *testing.T
	x *lgroup.Group
	m *groupModel
}

func newGroupBoth(t *testing.T) groupBoth { return groupBoth{t, lgroup.New(), &groupModel{}} }

func (b groupBoth) add(n int) {
	b.t.Helper()
	got, err := b.x.Add(n)
	want, wantErr := b.m.add(n)
	if !slices.Equal(got, want) || err != wantErr {
		b.t.Fatalf("Add(%d): %v %d, want %v %d", n, got, err, want, wantErr)
	}
}

func (b groupBoth) wait(task int) {
	b.t.Helper()
	got, err := b.x.Wait(task)
	want, wantErr := b.m.wait(task)
	if got != want || err != wantErr {
		b.t.Fatalf("Wait(%d): %v %d, want %v %d", task, got, err, want, wantErr)
	}
}

func (b groupBoth) check() {
	b.t.Helper()
	groupIs(b.t, b.x, int(b.m.count), b.m.row...)
}

// onceModel is a once told as plainly as the chapter does: the first of the row runs it, the others wait.
type onceModel struct {
	row  []int
	done bool
}

func (m *onceModel) do(task int) (bool, bool, api.Errno) {
	if task < 0 {
		return false, false, api.ErrArg
	}
	if slices.Contains(m.row, task) {
		return false, false, api.ErrHeld
	}
	if m.done {
		return false, false, api.OK
	}
	m.row = append(m.row, task)
	return len(m.row) == 1, len(m.row) > 1, api.OK
}

func (m *onceModel) end(task int) ([]int, api.Errno) {
	if len(m.row) == 0 || m.row[0] != task {
		return nil, api.ErrNotHeld
	}
	others := m.row[1:]
	m.row, m.done = nil, true
	return others, api.OK
}

func (m *onceModel) state() (int, bool) {
	if len(m.row) == 0 {
		return -1, m.done
	}
	return m.row[0], false
}

// onceBoth is a once and its model, to which the same is done.
type onceBoth struct {
	t *testing.T
	x *lgroup.Once
	m *onceModel
}

func newOnceBoth(t *testing.T) onceBoth { return onceBoth{t, lgroup.NewOnce(), &onceModel{}} }

func (b onceBoth) do(task int) {
	b.t.Helper()
	run, wait, err := b.x.Do(task)
	wantRun, wantWait, wantErr := b.m.do(task)
	if run != wantRun || wait != wantWait || err != wantErr {
		b.t.Fatalf("Do(%d): %v %v %d, want %v %v %d", task, run, wait, err, wantRun, wantWait, wantErr)
	}
}

func (b onceBoth) end(task int) {
	b.t.Helper()
	got, err := b.x.Done(task)
	want, wantErr := b.m.end(task)
	if !slices.Equal(got, want) || err != wantErr {
		b.t.Fatalf("Done(%d): %v %d, want %v %d", task, got, err, want, wantErr)
	}
}

func (b onceBoth) check() {
	b.t.Helper()
	who, done := b.m.state()
	onceIs(b.t, b.x, who, done)
}

func groupIs(t *testing.T, x *lgroup.Group, count int, queue ...int) {
	t.Helper()
	if got := x.Count(); got != count {
		t.Fatalf("Count: %d, want %d", got, count)
	}
	if got := x.Queue(); !slices.Equal(got, queue) {
		t.Fatalf("Queue: %v, want %v", got, queue)
	}
}

func mustAdd(t *testing.T, x *lgroup.Group, n int, want ...int) {
	t.Helper()
	if got, err := x.Add(n); !slices.Equal(got, want) || err != api.OK {
		t.Fatalf("Add(%d): %v %d, want %v", n, got, err, want)
	}
}

func mustNotAdd(t *testing.T, x *lgroup.Group, n int, want api.Errno) {
	t.Helper()
	if got, err := x.Add(n); len(got) != 0 || err != want {
		t.Fatalf("Add(%d): %v %d, want none %d", n, got, err, want)
	}
}

func mustWait(t *testing.T, x *lgroup.Group, task int, want bool) {
	t.Helper()
	if got, err := x.Wait(task); got != want || err != api.OK {
		t.Fatalf("Wait(%d): %v %d, want %v", task, got, err, want)
	}
}

func mustNotWait(t *testing.T, x *lgroup.Group, task int, want api.Errno) {
	t.Helper()
	if got, err := x.Wait(task); got || err != want {
		t.Fatalf("Wait(%d): %v %d, want false %d", task, got, err, want)
	}
}

func onceIs(t *testing.T, x *lgroup.Once, who int, done bool) {
	t.Helper()
	if gotWho, gotDone := x.State(); gotWho != who || gotDone != done {
		t.Fatalf("State: %d %v, want %d %v", gotWho, gotDone, who, done)
	}
}

func mustDo(t *testing.T, x *lgroup.Once, task int, wantRun, wantWait bool) {
	t.Helper()
	if run, wait, err := x.Do(task); run != wantRun || wait != wantWait || err != api.OK {
		t.Fatalf("Do(%d): %v %v %d, want %v %v", task, run, wait, err, wantRun, wantWait)
	}
}

func mustRun(t *testing.T, x *lgroup.Once, task int) {
	t.Helper()
	mustDo(t, x, task, true, false)
}

func mustStand(t *testing.T, x *lgroup.Once, task int) {
	t.Helper()
	mustDo(t, x, task, false, true)
}

func mustPass(t *testing.T, x *lgroup.Once, task int) {
	t.Helper()
	mustDo(t, x, task, false, false)
}

func mustNotDo(t *testing.T, x *lgroup.Once, task int, want api.Errno) {
	t.Helper()
	if run, wait, err := x.Do(task); run || wait || err != want {
		t.Fatalf("Do(%d): %v %v %d, want false false %d", task, run, wait, err, want)
	}
}

func mustEnd(t *testing.T, x *lgroup.Once, task int, want ...int) {
	t.Helper()
	if got, err := x.Done(task); !slices.Equal(got, want) || err != api.OK {
		t.Fatalf("Done(%d): %v %d, want %v", task, got, err, want)
	}
}

func mustNotEnd(t *testing.T, x *lgroup.Once, task int) {
	t.Helper()
	if got, err := x.Done(task); len(got) != 0 || err != api.ErrNotHeld {
		t.Fatalf("Done(%d): %v %d, want none %d", task, got, err, api.ErrNotHeld)
	}
}

// Promise 9.1.

func TestGroupAtZero(t *testing.T) {
	x := lgroup.New()
	groupIs(t, x, 0)
	mustWait(t, x, 7, true)
	groupIs(t, x, 0)
	mustAdd(t, x, 0)
	groupIs(t, x, 0)
	mustNotAdd(t, x, -1, api.ErrNegative)
	groupIs(t, x, 0)
}

func TestGroupOfTheDocument(t *testing.T) {
	x := lgroup.New()
	mustAdd(t, x, 2)
	mustWait(t, x, 7, false)
	mustAdd(t, x, -1)
	mustAdd(t, x, -1, 7)
	mustNotAdd(t, x, -1, api.ErrNegative)
	groupIs(t, x, 0)
}

func TestGroupInTurn(t *testing.T) {
	x := lgroup.New()
	mustAdd(t, x, 3)
	groupIs(t, x, 3)
	mustWait(t, x, 5, false)
	groupIs(t, x, 3, 5)
	mustWait(t, x, 2, false)
	mustWait(t, x, 9, false)
	groupIs(t, x, 3, 5, 2, 9)
	mustAdd(t, x, 0)
	groupIs(t, x, 3, 5, 2, 9)
	mustAdd(t, x, -2)
	groupIs(t, x, 1, 5, 2, 9)
	mustWait(t, x, 1, false)
	mustAdd(t, x, 4)
	groupIs(t, x, 5, 5, 2, 9, 1)
	mustAdd(t, x, -5, 5, 2, 9, 1)
	groupIs(t, x, 0)
	mustAdd(t, x, 0) // they went on already
	mustWait(t, x, 5, true)
	groupIs(t, x, 0)
	mustAdd(t, x, 1)
	groupIs(t, x, 1)
	mustAdd(t, x, -1)
	groupIs(t, x, 0)
}

func TestGroupWaitsAgainBehindZero(t *testing.T) {
	x := lgroup.New()
	for range 4 {
		mustAdd(t, x, 1)
		mustWait(t, x, 3, false)
		mustNotWait(t, x, 3, api.ErrHeld)
		mustWait(t, x, 1, false)
		groupIs(t, x, 1, 3, 1)
		mustAdd(t, x, -1, 3, 1)
		groupIs(t, x, 0)
		mustWait(t, x, 1, true)
		mustWait(t, x, 3, true)
		mustWait(t, x, 3, true)
		mustAdd(t, x, 2)
		mustWait(t, x, 1, false)
		groupIs(t, x, 2, 1)
		mustAdd(t, x, -2, 1)
	}
}

func TestGroupCountAtItsEdges(t *testing.T) {
	x := lgroup.New()
	mustAdd(t, x, api.MaxCount)
	groupIs(t, x, api.MaxCount)
	mustWait(t, x, 4, false)
	for _, n := range []int{1, 2, api.MaxCount - 1, api.MaxCount} {
		mustNotAdd(t, x, n, api.ErrRange)
		groupIs(t, x, api.MaxCount, 4)
	}
	mustAdd(t, x, 0)
	mustAdd(t, x, -1)
	groupIs(t, x, api.MaxCount-1, 4)
	mustNotAdd(t, x, 2, api.ErrRange)
	mustNotAdd(t, x, -api.MaxCount, api.ErrNegative)
	groupIs(t, x, api.MaxCount-1, 4)
	mustAdd(t, x, 1)
	groupIs(t, x, api.MaxCount, 4)
	mustAdd(t, x, -api.MaxCount, 4)
	groupIs(t, x, 0)
	mustNotAdd(t, x, -api.MaxCount, api.ErrNegative)
	groupIs(t, x, 0)
}

func TestGroupCountAroundZero(t *testing.T) {
	for _, count := range []int{0, 1, 2, 5, api.MaxCount / 2, api.MaxCount - 1} {
		x := lgroup.New()
		mustAdd(t, x, count)
		for _, n := range []int{-count - 1, -count - 2, -api.MaxCount} {
			if n >= -api.MaxCount {
				mustNotAdd(t, x, n, api.ErrNegative)
				groupIs(t, x, count)
			}
		}
		mustAdd(t, x, -count)
		groupIs(t, x, 0)
	}
}

func TestGroupFarAway(t *testing.T) {
	for _, count := range []int{0, 1, 2, api.MaxCount / 2, api.MaxCount - 1, api.MaxCount} {
		b := newGroupBoth(t)
		b.add(count)
		b.wait(6)
		for _, n := range farAway {
			mustNotAdd(t, b.x, n, api.ErrRange) // ahead of ErrNegative
			b.check()
		}
		b.add(-count)
		b.check()
	}
}

func TestGroupAllSmallMoves(t *testing.T) {
	edges := []int{0, 1, 2, 3, api.MaxCount/2 - 1, api.MaxCount / 2, api.MaxCount/2 + 1, api.MaxCount - 2, api.MaxCount - 1, api.MaxCount}
	var moves []int
	for _, n := range edges {
		moves = append(moves, n, -n)
	}
	for _, first := range edges {
		for _, second := range append(moves, farAway...) {
			for _, third := range moves {
				b := newGroupBoth(t)
				b.add(first)
				b.wait(1)
				b.add(second)
				b.wait(2)
				b.check()
				b.add(third)
				b.check()
			}
		}
	}
}

func TestGroupBelowZero(t *testing.T) {
	x := lgroup.New()
	refuse := func(count int, queue ...int) {
		t.Helper()
		for _, task := range belowZero {
			mustNotWait(t, x, task, api.ErrArg)
			mustNotWait(t, x, task, api.ErrArg)
			groupIs(t, x, count, queue...)
		}
	}
	refuse(0)
	mustAdd(t, x, 1)
	refuse(1)
	mustWait(t, x, 0, false)
	refuse(1, 0)
	mustAdd(t, x, -1, 0)
	refuse(0)
}

func TestGroupOfTaskZero(t *testing.T) {
	x := lgroup.New()
	mustWait(t, x, 0, true)
	mustAdd(t, x, 1)
	mustWait(t, x, 1, false)
	mustWait(t, x, 0, false)
	mustNotWait(t, x, 0, api.ErrHeld)
	groupIs(t, x, 1, 1, 0)
	mustAdd(t, x, -1, 1, 0)
	mustWait(t, x, 0, true)
}

func TestGroupOfOddTasks(t *testing.T) {
	b := newGroupBoth(t)
	b.add(1)
	for range 2 {
		for _, task := range oddTasks {
			b.wait(task)
			b.check()
		}
	}
	b.add(-1)
	for _, task := range oddTasks {
		b.wait(task)
	}
	b.check()
}

func TestGroupAskedAgain(t *testing.T) {
	x := lgroup.New()
	mustAdd(t, x, 1)
	for _, task := range []int{4, 2, 8} {
		mustWait(t, x, task, false)
	}
	for range 3 {
		for _, task := range []int{2, 8, 4} {
			mustNotWait(t, x, task, api.ErrHeld)
			groupIs(t, x, 1, 4, 2, 8)
		}
	}
	mustNotAdd(t, x, -2, api.ErrNegative)
	mustNotWait(t, x, 2, api.ErrHeld) // a refused Add lets nobody go on
	mustAdd(t, x, 3)
	mustNotWait(t, x, 2, api.ErrHeld)
	groupIs(t, x, 4, 4, 2, 8)
	mustAdd(t, x, -4, 4, 2, 8)
}

func TestGroupManyWait(t *testing.T) {
	const many = 200_000
	x := lgroup.New()
	mustAdd(t, x, 1)
	want := make([]int, many)
	for i := range want {
		want[i] = i * 7919 % many
		mustWait(t, x, want[i], false)
	}
	for i := range want {
		mustNotWait(t, x, i, api.ErrHeld)
	}
	groupIs(t, x, 1, want...)
	mustAdd(t, x, -1, want...)
	groupIs(t, x, 0)
	for i := range want { // each round is short, however many waited ahead of it
		mustAdd(t, x, 1)
		mustWait(t, x, i, false)
		mustAdd(t, x, -1, i)
	}
}

func TestGroupsAreApart(t *testing.T) {
	a, b := lgroup.New(), lgroup.New()
	mustAdd(t, a, 2)
	mustWait(t, a, 1, false)
	groupIs(t, b, 0)
	mustWait(t, b, 1, true)
	mustAdd(t, b, 5)
	mustWait(t, b, 1, false)
	mustWait(t, b, 2, false)
	groupIs(t, a, 2, 1)
	mustAdd(t, a, -2, 1)
	groupIs(t, b, 5, 1, 2)
}

func TestGroupZeroValue(t *testing.T) {
	var x lgroup.Group
	groupIs(t, &x, 0)
	mustWait(t, &x, 1, true)
	mustAdd(t, &x, 1)
	mustWait(t, &x, 1, false)
	mustAdd(t, &x, -1, 1)
}

func TestGroupNil(t *testing.T) {
	var x *lgroup.Group
	for _, n := range append([]int{0, 1, -1, api.MaxCount, -api.MaxCount}, farAway...) {
		mustNotAdd(t, x, n, api.ErrArg)
	}
	for _, task := range append(belowZero, oddTasks...) {
		mustNotWait(t, x, task, api.ErrArg)
	}
	groupIs(t, x, 0)
}

// groupDeed does the deed of that number: 4 of Add, 4 of Wait.
func groupDeed(b groupBoth, deed int) {
	b.t.Helper()
	switch deed {
	case 0, 1, 2, 3:
		b.add(deed - 2)
	default:
		b.wait(deed - 5)
	}
	b.check()
}

func TestGroupAllShortScripts(t *testing.T) {
	const deeds, length = 8, 5
	for script := range 8 * 8 * 8 * 8 * 8 {
		b := newGroupBoth(t)
		for range length {
			groupDeed(b, script%deeds)
			script /= deeds
		}
	}
}

func TestGroupRandomDeeds(t *testing.T) {
	r := rand.New(rand.NewPCG(9, 1))
	for round := range 200 {
		b := newGroupBoth(t)
		span := 1 + round%12
		for range 300 {
			switch r.IntN(8) {
			case 0, 1:
				b.add(r.IntN(2*span+1) - span)
			case 2:
				b.add(-b.x.Count())
			case 3:
				b.add(r.IntN(4*api.MaxCount) - 2*api.MaxCount)
			case 4:
				b.add(api.MaxCount - b.x.Count() + r.IntN(3) - 1)
			default:
				b.wait(r.IntN(14) - 1)
			}
			b.check()
		}
	}
}

// Promise 9.2.

func TestOnceOfNobody(t *testing.T) {
	x := lgroup.NewOnce()
	onceIs(t, x, -1, false)
	for _, task := range append(belowZero, oddTasks...) {
		mustNotEnd(t, x, task)
		onceIs(t, x, -1, false)
	}
	mustRun(t, x, 3)
}

func TestOnceInTurn(t *testing.T) {
	x := lgroup.NewOnce()
	mustRun(t, x, 4)
	onceIs(t, x, 4, false)
	mustStand(t, x, 7)
	mustStand(t, x, 2)
	mustStand(t, x, 9)
	onceIs(t, x, 4, false)
	mustEnd(t, x, 4, 7, 2, 9)
	onceIs(t, x, -1, true)
	for _, task := range []int{4, 7, 2, 9, 1, 0} {
		mustPass(t, x, task)
		mustPass(t, x, task)
		mustNotEnd(t, x, task)
		onceIs(t, x, -1, true)
	}
}

func TestOnceOfOneAlone(t *testing.T) {
	x := lgroup.NewOnce()
	mustRun(t, x, 4)
	mustEnd(t, x, 4)
	onceIs(t, x, -1, true)
	mustNotEnd(t, x, 4)
	mustPass(t, x, 4)
	mustNotEnd(t, x, 4)
	onceIs(t, x, -1, true)
}

func TestOnceAskedAgain(t *testing.T) {
	x := lgroup.NewOnce()
	mustRun(t, x, 5)
	mustNotDo(t, x, 5, api.ErrHeld)
	mustStand(t, x, 6)
	mustStand(t, x, 1)
	for range 3 {
		for _, task := range []int{5, 6, 1} {
			mustNotDo(t, x, task, api.ErrHeld)
			onceIs(t, x, 5, false)
		}
	}
	mustEnd(t, x, 5, 6, 1) // each of them once
	mustPass(t, x, 5)
	mustPass(t, x, 6)
}

func TestOnceEndedByOthers(t *testing.T) {
	x := lgroup.NewOnce()
	mustRun(t, x, 7)
	mustStand(t, x, 8)
	mustStand(t, x, 3)
	for _, task := range slices.Concat([]int{8, 3, 6, 9}, oddTasks, belowZero) {
		mustNotEnd(t, x, task)
		onceIs(t, x, 7, false)
	}
	mustNotDo(t, x, 8, api.ErrHeld) // it still waits
	mustEnd(t, x, 7, 8, 3)
	for _, task := range []int{7, 8, 3, 6} {
		mustNotEnd(t, x, task)
		onceIs(t, x, -1, true)
	}
}

func TestOnceBelowZero(t *testing.T) {
	x := lgroup.NewOnce()
	refuse := func(who int, done bool) {
		t.Helper()
		for _, task := range belowZero {
			mustNotDo(t, x, task, api.ErrArg)
			mustNotDo(t, x, task, api.ErrArg)
			mustNotEnd(t, x, task) // Done knows no ErrArg, and -1 is nobody, not a task
			onceIs(t, x, who, done)
		}
	}
	refuse(-1, false)
	mustRun(t, x, 0)
	refuse(0, false)
	mustStand(t, x, 1)
	refuse(0, false)
	mustEnd(t, x, 0, 1)
	refuse(-1, true)
}

func TestOnceOfTaskZero(t *testing.T) {
	x := lgroup.NewOnce()
	mustNotEnd(t, x, 0)
	mustRun(t, x, 0)
	onceIs(t, x, 0, false)
	mustNotDo(t, x, 0, api.ErrHeld)
	mustEnd(t, x, 0)
	mustNotEnd(t, x, 0)
	y := lgroup.NewOnce()
	mustRun(t, y, 1)
	mustNotEnd(t, y, 0)
	mustStand(t, y, 0)
	mustNotDo(t, y, 0, api.ErrHeld)
	mustNotEnd(t, y, 0)
	mustEnd(t, y, 1, 0)
	mustPass(t, y, 0)
}

func TestOnceOfOddTasks(t *testing.T) {
	for _, first := range oddTasks {
		b := newOnceBoth(t)
		b.do(first)
		for range 2 {
			for _, task := range oddTasks {
				b.do(task)
				b.check()
			}
		}
		b.end(first)
		b.check()
		for _, task := range oddTasks {
			b.do(task)
			b.end(task)
		}
		b.check()
	}
}

func TestOnceManyWait(t *testing.T) {
	const many = 200_000
	x := lgroup.NewOnce()
	mustRun(t, x, many)
	want := make([]int, many)
	for i := range want {
		want[i] = i * 7919 % many
		mustStand(t, x, want[i])
	}
	for i := range want {
		mustNotDo(t, x, i, api.ErrHeld)
	}
	onceIs(t, x, many, false)
	mustEnd(t, x, many, want...)
	onceIs(t, x, -1, true)
	for i := range want {
		mustPass(t, x, i)
	}
}

func TestOncesAreApart(t *testing.T) {
	a, b := lgroup.NewOnce(), lgroup.NewOnce()
	mustRun(t, a, 1)
	onceIs(t, b, -1, false)
	mustRun(t, b, 2)
	mustStand(t, a, 2)
	mustStand(t, b, 1)
	mustStand(t, b, 3)
	mustEnd(t, a, 1, 2)
	onceIs(t, b, 2, false)
	mustNotDo(t, b, 1, api.ErrHeld)
	mustEnd(t, b, 2, 1, 3)
}

func TestOnceZeroValue(t *testing.T) {
	var x lgroup.Once
	onceIs(t, &x, -1, false)
	mustNotEnd(t, &x, 0)
	mustRun(t, &x, 0)
	mustStand(t, &x, 1)
	mustEnd(t, &x, 0, 1)
}

func TestOnceNil(t *testing.T) {
	var x *lgroup.Once
	for _, task := range append(belowZero, oddTasks...) {
		mustNotDo(t, x, task, api.ErrArg)
		if got, err := x.Done(task); len(got) != 0 || err != api.ErrArg {
			t.Errorf("Done(%d) on nil: %v %d, want none %d", task, got, err, api.ErrArg)
		}
	}
	onceIs(t, x, -1, false)
}

func TestOnceAllShortScripts(t *testing.T) {
	const deeds, length = 8, 5
	for script := range 8 * 8 * 8 * 8 * 8 {
		b := newOnceBoth(t)
		for range length {
			if deed := script % deeds; deed < deeds/2 {
				b.do(deed - 1)
			} else {
				b.end(deed - deeds/2 - 1)
			}
			b.check()
			script /= deeds
		}
	}
}

func TestOnceRandomDeeds(t *testing.T) {
	r := rand.New(rand.NewPCG(9, 2))
	for round := range 2000 {
		b := newOnceBoth(t)
		for range 30 {
			task := r.IntN(2+round%20) - 1
			if r.IntN(2+round%7) > 0 {
				b.do(task)
			} else {
				b.end(task)
			}
			b.check()
		}
	}
}

// What is handed out is new memory.

// spoil overwrites a list, and what lies behind its end.
func spoil(l []int, with int) {
	l = l[:cap(l)]
	for i := range l {
		l[i] = with
	}
}

func TestGroupListsAreNew(t *testing.T) {
	x := lgroup.New()
	mustAdd(t, x, 1)
	for _, task := range []int{5, 3, 8} {
		mustWait(t, x, task, false)
	}
	one, other := x.Queue(), x.Queue()
	spoil(one, 77)
	groupIs(t, x, 1, 5, 3, 8)
	mustWait(t, x, 1, false)
	if !slices.Equal(other, []int{5, 3, 8}) {
		t.Fatalf("another answer: %v", other)
	}
	kept := x.Queue()
	got, _ := x.Add(-1)
	spoil(got, 78)
	if !slices.Equal(kept, []int{5, 3, 8, 1}) {
		t.Fatalf("another answer: %v", kept)
	}
	groupIs(t, x, 0)
	mustAdd(t, x, 1)
	for _, task := range []int{8, 78, 77, 5} {
		mustWait(t, x, task, false)
	}
	spoil(got, 79) // it is no part of the new row
	spoil(one, 79)
	groupIs(t, x, 1, 8, 78, 77, 5)
	next, _ := x.Add(-1)
	spoil(got, 80)
	if !slices.Equal(next, []int{8, 78, 77, 5}) {
		t.Fatalf("another answer: %v", next)
	}
}

func TestGroupAnswersStay(t *testing.T) {
	x := lgroup.New()
	mustAdd(t, x, 1)
	for _, task := range []int{5, 3, 8} {
		mustWait(t, x, task, false)
	}
	got, _ := x.Add(-1)
	mustAdd(t, x, 1)
	for task := range 20 {
		mustWait(t, x, task+100, false)
	}
	if !slices.Equal(got, []int{5, 3, 8}) {
		t.Fatalf("an answer changed: %v", got)
	}
}

func TestOnceListIsNew(t *testing.T) {
	x := lgroup.NewOnce()
	mustRun(t, x, 1)
	for _, task := range []int{5, 3, 8} {
		mustStand(t, x, task)
	}
	got, _ := x.Done(1)
	spoil(got, 77)
	onceIs(t, x, -1, true)
	mustPass(t, x, 77)
	mustPass(t, x, 5)
}

// Promise 9.3.

func TestOnceIsRunByOneAlone(t *testing.T) {
	r := rand.New(rand.NewPCG(9, 3))
	for range 2000 {
		x := lgroup.NewOnce()
		runs, runner, ends := 0, -1, 0
		for range 40 {
			task := r.IntN(6)
			if r.IntN(4) > 0 {
				if run, _, _ := x.Do(task); run {
					runs, runner = runs+1, task
				}
			} else if _, err := x.Done(task); err == api.OK {
				ends++
				if task != runner {
					t.Fatalf("%d ran it, %d ended it", runner, task)
				}
			}
			if runs > 1 || ends > runs {
				t.Fatalf("run %d times, ended %d times", runs, ends)
			}
		}
	}
}

func TestWhoWaitsForAOnceGoesOnOnce(t *testing.T) {
	r := rand.New(rand.NewPCG(9, 4))
	for range 500 {
		x := lgroup.NewOnce()
		var stood []int
		for range 30 {
			task := r.IntN(12)
			if _, wait, _ := x.Do(task); wait {
				stood = append(stood, task)
			}
		}
		who, _ := x.State()
		mustEnd(t, x, who, stood...)
	}
}

func TestNobodyWaitsAtZero(t *testing.T) {
	r := rand.New(rand.NewPCG(9, 5))
	for range 500 {
		x := lgroup.New()
		var stood []int
		for range 100 {
			if r.IntN(2) > 0 {
				if task := r.IntN(9); !slices.Contains(stood, task) {
					now, err := x.Wait(task)
					if now != (x.Count() == 0) || err != api.OK {
						t.Fatalf("Wait(%d) at %d: %v %d", task, x.Count(), now, err)
					}
					if !now {
						stood = append(stood, task)
					}
				}
			} else if got, err := x.Add(r.IntN(7) - 3); len(got) > 0 {
				if err != api.OK || x.Count() != 0 || !slices.Equal(got, stood) {
					t.Fatalf("%v went on at %d with %d, want %v", got, x.Count(), err, stood)
				}
				stood = nil
			}
			if x.Count() == 0 && (len(x.Queue()) > 0 || len(stood) > 0) {
				t.Fatalf("at 0 wait %v, %v", x.Queue(), stood)
			}
		}
	}
}

func FuzzDeeds(f *testing.F) {
	f.Add([]byte{0, 2, 1, 7, 0, 255, 0, 255, 0, 255, 2, 1, 2, 2, 3, 2, 3, 1, 2, 1})
	f.Add([]byte{4, 30, 1, 1, 0, 1, 5, 30, 5, 31, 4, 62})
	f.Fuzz(func(t *testing.T, script []byte) {
		g, o := newGroupBoth(t), newOnceBoth(t)
		for i := 0; i+1 < len(script) && i < 400; i += 2 {
			n := int(int8(script[i+1]))
			switch script[i] % 6 {
			case 0:
				g.add(n)
			case 1:
				g.wait(n % 12)
			case 2:
				o.do(n % 12)
			case 3:
				o.end(n % 12)
			case 4:
				g.add(1 << (uint(n) % 64))
			case 5:
				g.add(-1 << (uint(n) % 64))
			}
			g.check()
			o.check()
		}
	})
}

package lmutex_test

import (
	"math"
	"math/rand/v2"
	"slices"
	"testing"

	"latchkey/api"
	"latchkey/lmutex"
)

const (
	reading = true
	writing = false
)

// belowZero are no tasks.
var belowZero = []int{-1, -2, -1000, math.MinInt32, math.MinInt + 1, math.MinInt}

// oddTasks are tasks at the edges of what an int holds, beside others.
var oddTasks = []int{0, 1, 2, 63, 64, math.MaxInt32, math.MaxInt32 + 1, math.MaxInt - 1, math.MaxInt}

// mutexModel is a mutex told as plainly as the chapter does: the first of the row holds it, the others wait.
type mutexModel struct{ row []int }

func (m *mutexModel) lock(task int) (bool, api.Errno) {
	if task < 0 {
		return false, api.ErrArg
	}
	if slices.Contains(m.row, task) {
		return false, api.ErrHeld
	}
	m.row = append(m.row, task)
	return len(m.row) == 1, api.OK
}

func (m *mutexModel) unlock(task int) (int, api.Errno) {
	if len(m.row) == 0 || m.row[0] != task {
		return 0, api.ErrNotHeld
	}
	m.row = slices.Delete(m.row, 0, 1)
	return m.holder(), api.OK
}

func (m *mutexModel) holder() int {
	if len(m.row) == 0 {
		return -1
	}
	return m.row[0]
}

func (m *mutexModel) queue() []int {
	if len(m.row) == 0 {
		return nil
	}
	return m.row[1:]
}

// mutexBoth is a mutex and its model, to which the same is done.
type mutexBoth struct {
	t *testing.T
	x *lmutex.Mutex
	m *mutexModel
}

func newMutexBoth(t *testing.T) mutexBoth { return mutexBoth{t, lmutex.New(), &mutexModel{}} }

func (b mutexBoth) lock(task int) {
	b.t.Helper()
	got, err := b.x.Lock(task)
	want, wantErr := b.m.lock(task)
	if got != want || err != wantErr {
		b.t.Fatalf("Lock(%d): %v %d, want %v %d", task, got, err, want, wantErr)
	}
}

func (b mutexBoth) unlock(task int) {
	b.t.Helper()
	got, err := b.x.Unlock(task)
	want, wantErr := b.m.unlock(task)
	if got != want || err != wantErr {
		b.t.Fatalf("Unlock(%d): %d %d, want %d %d", task, got, err, want, wantErr)
	}
}

func (b mutexBoth) check() {
	b.t.Helper()
	mutexIs(b.t, b.x, b.m.holder(), b.m.queue()...)
}

// rwModel is an rwlock told as plainly as the chapter does: who holds it, and who waits, as they came.
type rwModel struct{ holders, waiters []api.Wait }

func isTask(task int) func(api.Wait) bool {
	return func(w api.Wait) bool { return w.Task == task }
}

func isWriter(w api.Wait) bool { return !w.Reader }

// mayHold tells whether one more may hold it, if nobody stands ahead of it.
func (m *rwModel) mayHold(reader bool) bool {
	if reader {
		return !slices.ContainsFunc(m.holders, isWriter)
	}
	return len(m.holders) == 0
}

func (m *rwModel) lock(task int, reader bool) (bool, api.Errno) {
	if task < 0 {
		return false, api.ErrArg
	}
	if slices.ContainsFunc(m.holders, isTask(task)) || slices.ContainsFunc(m.waiters, isTask(task)) {
		return false, api.ErrHeld
	}
	if m.mayHold(reader) && len(m.waiters) == 0 {
		m.holders = append(m.holders, api.Wait{Task: task, Reader: reader})
		return true, api.OK
	}
	m.waiters = append(m.waiters, api.Wait{Task: task, Reader: reader, Blocked: true})
	return false, api.OK
}

func (m *rwModel) unlock(task int, reader bool) ([]int, api.Errno) {
	i := slices.Index(m.holders, api.Wait{Task: task, Reader: reader})
	if i < 0 {
		return nil, api.ErrNotHeld
	}
	m.holders = slices.Delete(m.holders, i, i+1)
	var got []int
	for len(m.waiters) > 0 && m.mayHold(m.waiters[0].Reader) {
		w := m.waiters[0]
		m.waiters = slices.Delete(m.waiters, 0, 1)
		m.holders = append(m.holders, api.Wait{Task: w.Task, Reader: w.Reader})
		got = append(got, w.Task)
	}
	return got, api.OK
}

// rising gives the tasks that hold it in rising order.
func (m *rwModel) rising() []int {
	tasks := tasksOf(m.holders)
	slices.Sort(tasks)
	return tasks
}

// rwBoth is an rwlock and its model, to which the same is done.
type rwBoth struct {
	t *testing.T
	x *lmutex.RW
	m *rwModel
}

func newRWBoth(t *testing.T) rwBoth { return rwBoth{t, lmutex.NewRW(), &rwModel{}} }

func (b rwBoth) lock(task int, reader bool) {
	b.t.Helper()
	got, err := b.x.Lock(task, reader)
	want, wantErr := b.m.lock(task, reader)
	if got != want || err != wantErr {
		b.t.Fatalf("Lock(%d, %v): %v %d, want %v %d", task, reader, got, err, want, wantErr)
	}
}

func (b rwBoth) unlock(task int, reader bool) {
	b.t.Helper()
	got, err := b.x.Unlock(task, reader)
	want, wantErr := b.m.unlock(task, reader)
	if !slices.Equal(got, want) || err != wantErr {
		b.t.Fatalf("Unlock(%d, %v): %v %d, want %v %d", task, reader, got, err, want, wantErr)
	}
}

func (b rwBoth) check() {
	b.t.Helper()
	holdersAre(b.t, b.x, slices.ContainsFunc(b.m.holders, isWriter), b.m.rising()...)
	waitersAre(b.t, b.x, b.m.waiters...)
}

func tasksOf(waits []api.Wait) []int {
	var tasks []int
	for _, w := range waits {
		tasks = append(tasks, w.Task)
	}
	return tasks
}

func mutexIs(t *testing.T, x *lmutex.Mutex, holder int, queue ...int) {
	t.Helper()
	if got := x.Holder(); got != holder {
		t.Fatalf("Holder: %d, want %d", got, holder)
	}
	if got := x.Queue(); !slices.Equal(got, queue) {
		t.Fatalf("Queue: %v, want %v", got, queue)
	}
}

func mustLock(t *testing.T, x *lmutex.Mutex, task int, want bool) {
	t.Helper()
	if got, err := x.Lock(task); got != want || err != api.OK {
		t.Fatalf("Lock(%d): %v %d, want %v", task, got, err, want)
	}
}

func mustUnlock(t *testing.T, x *lmutex.Mutex, task, want int) {
	t.Helper()
	if got, err := x.Unlock(task); got != want || err != api.OK {
		t.Fatalf("Unlock(%d): %d %d, want %d", task, got, err, want)
	}
}

func mustNotLock(t *testing.T, x *lmutex.Mutex, task int, want api.Errno) {
	t.Helper()
	if got, err := x.Lock(task); got || err != want {
		t.Fatalf("Lock(%d): %v %d, want false %d", task, got, err, want)
	}
}

func mustNotUnlock(t *testing.T, x *lmutex.Mutex, task int) {
	t.Helper()
	if got, err := x.Unlock(task); got != 0 || err != api.ErrNotHeld {
		t.Fatalf("Unlock(%d): %d %d, want 0 %d", task, got, err, api.ErrNotHeld)
	}
}

func holdersAre(t *testing.T, x *lmutex.RW, writer bool, tasks ...int) {
	t.Helper()
	if got, isWriter := x.Holders(); !slices.Equal(got, tasks) || isWriter != writer {
		t.Fatalf("Holders: %v %v, want %v %v", got, isWriter, tasks, writer)
	}
}

func waitersAre(t *testing.T, x *lmutex.RW, want ...api.Wait) {
	t.Helper()
	if got := x.Queue(); !slices.Equal(got, want) {
		t.Fatalf("Queue: %v, want %v", got, want)
	}
}

// waiter is how Queue tells of a task that waits.
func waiter(task int, reader bool) api.Wait {
	return api.Wait{Task: task, Reader: reader, Blocked: true}
}

func mustLockRW(t *testing.T, x *lmutex.RW, task int, reader, want bool) {
	t.Helper()
	if got, err := x.Lock(task, reader); got != want || err != api.OK {
		t.Fatalf("Lock(%d, %v): %v %d, want %v", task, reader, got, err, want)
	}
}

func mustUnlockRW(t *testing.T, x *lmutex.RW, task int, reader bool, want ...int) {
	t.Helper()
	if got, err := x.Unlock(task, reader); !slices.Equal(got, want) || err != api.OK {
		t.Fatalf("Unlock(%d, %v): %v %d, want %v", task, reader, got, err, want)
	}
}

func mustNotLockRW(t *testing.T, x *lmutex.RW, task int, want api.Errno) {
	t.Helper()
	for _, reader := range []bool{reading, writing} {
		if got, err := x.Lock(task, reader); got || err != want {
			t.Fatalf("Lock(%d, %v): %v %d, want false %d", task, reader, got, err, want)
		}
	}
}

func mustNotUnlockRW(t *testing.T, x *lmutex.RW, task int, reader bool) {
	t.Helper()
	if got, err := x.Unlock(task, reader); len(got) != 0 || err != api.ErrNotHeld {
		t.Fatalf("Unlock(%d, %v): %v %d, want none %d", task, reader, got, err, api.ErrNotHeld)
	}
}

// Promise 8.1.

func TestMutexOfNobody(t *testing.T) {
	x := lmutex.New()
	mutexIs(t, x, -1)
	mustNotUnlock(t, x, 0)
	mutexIs(t, x, -1)
}

func TestMutexInTurn(t *testing.T) {
	x := lmutex.New()
	mustLock(t, x, 1, true)
	mutexIs(t, x, 1)
	mustLock(t, x, 2, false)
	mutexIs(t, x, 1, 2)
	mustLock(t, x, 5, false)
	mustLock(t, x, 3, false)
	mutexIs(t, x, 1, 2, 5, 3)
	mustUnlock(t, x, 1, 2)
	mutexIs(t, x, 2, 5, 3)
	mustLock(t, x, 1, false)
	mutexIs(t, x, 2, 5, 3, 1)
	mustUnlock(t, x, 2, 5)
	mustUnlock(t, x, 5, 3)
	mutexIs(t, x, 3, 1)
	mustUnlock(t, x, 3, 1)
	mutexIs(t, x, 1)
	mustUnlock(t, x, 1, -1)
	mutexIs(t, x, -1)
	mustLock(t, x, 3, true)
	mutexIs(t, x, 3)
}

func TestMutexOfTaskZero(t *testing.T) {
	x := lmutex.New()
	mustLock(t, x, 0, true)
	mutexIs(t, x, 0)
	mustNotLock(t, x, 0, api.ErrHeld)
	mustUnlock(t, x, 0, -1)
	mustNotUnlock(t, x, 0)
	mustLock(t, x, 1, true)
	mustNotUnlock(t, x, 0)
	mustLock(t, x, 0, false)
	mutexIs(t, x, 1, 0)
	mustNotLock(t, x, 0, api.ErrHeld)
	mustUnlock(t, x, 1, 0)
	mutexIs(t, x, 0)
}

func TestMutexBelowZero(t *testing.T) {
	x := lmutex.New()
	refuse := func(holder int, queue ...int) {
		t.Helper()
		for _, task := range belowZero {
			mustNotLock(t, x, task, api.ErrArg)
			mustNotUnlock(t, x, task) // Unlock knows no ErrArg, and -1 is nobody, not a task
			mutexIs(t, x, holder, queue...)
		}
	}
	refuse(-1)
	mustLock(t, x, 1, true)
	refuse(1)
	mustLock(t, x, 0, false)
	refuse(1, 0)
	mustUnlock(t, x, 1, 0)
	mustUnlock(t, x, 0, -1)
	refuse(-1)
}

func TestMutexOfOddTasks(t *testing.T) {
	b := newMutexBoth(t)
	for _, task := range oddTasks {
		b.lock(task)
		b.check()
	}
	for _, task := range oddTasks {
		b.lock(task)
	}
	for _, task := range oddTasks {
		b.unlock(task)
		b.check()
	}
}

func TestMutexAskedAgain(t *testing.T) {
	x := lmutex.New()
	mustLock(t, x, 1, true)
	mustNotLock(t, x, 1, api.ErrHeld)
	mutexIs(t, x, 1)
	mustLock(t, x, 2, false)
	mustLock(t, x, 3, false)
	for range 3 {
		for _, task := range []int{1, 2, 3} {
			mustNotLock(t, x, task, api.ErrHeld)
			mutexIs(t, x, 1, 2, 3)
		}
	}
	mustUnlock(t, x, 1, 2)
	mustNotLock(t, x, 2, api.ErrHeld) // that it waited no longer makes it one that may ask
	mustNotLock(t, x, 3, api.ErrHeld)
	mutexIs(t, x, 2, 3)
	mustLock(t, x, 1, false) // it has let go
	mutexIs(t, x, 2, 3, 1)
}

func TestMutexUnlockedByOthers(t *testing.T) {
	x := lmutex.New()
	for _, task := range oddTasks {
		mustNotUnlock(t, x, task)
	}
	mustLock(t, x, 7, true)
	mustLock(t, x, 8, false)
	mustLock(t, x, 9, false)
	for _, task := range append([]int{8, 9, 10, 6}, oddTasks...) {
		mustNotUnlock(t, x, task)
		mutexIs(t, x, 7, 8, 9)
	}
	mustUnlock(t, x, 7, 8)
	mustNotUnlock(t, x, 7) // a second time
	mutexIs(t, x, 8, 9)
}

func TestMutexHasNoOtherState(t *testing.T) {
	x := lmutex.New()
	for _, task := range oddTasks {
		for range 3 {
			mustLock(t, x, task, true)
			mustUnlock(t, x, task, -1)
			mustNotUnlock(t, x, task)
			mutexIs(t, x, -1)
		}
	}
}

func TestMutexesAreApart(t *testing.T) {
	a, b := lmutex.New(), lmutex.New()
	mustLock(t, a, 1, true)
	mustLock(t, a, 2, false)
	mutexIs(t, b, -1)
	mustNotUnlock(t, b, 1)
	mustLock(t, b, 2, true)
	mustLock(t, b, 1, false)
	mutexIs(t, a, 1, 2)
	mutexIs(t, b, 2, 1)
}

func TestMutexZeroValue(t *testing.T) {
	x := new(lmutex.Mutex)
	mutexIs(t, x, -1)
	mustNotUnlock(t, x, 0)
	mustLock(t, x, 0, true)
	mustLock(t, x, 1, false)
	mutexIs(t, x, 0, 1)
}

func TestMutexNil(t *testing.T) {
	var x *lmutex.Mutex
	for _, task := range slices.Concat(belowZero, oddTasks) {
		mustNotLock(t, x, task, api.ErrArg)
		if n, err := x.Unlock(task); n != -1 || err != api.ErrArg {
			t.Errorf("Unlock(%d): %d %d, want -1 %d", task, n, err, api.ErrArg)
		}
		mutexIs(t, x, -1)
	}
}

// TestMutexAllShortScripts does all rows of deeds of some length, each held against the model.
func TestMutexAllShortScripts(t *testing.T) {
	const tasks, deeds, length = 4, 8, 5
	for script := range power(deeds, length) {
		b := newMutexBoth(t)
		for range length {
			task := script%tasks - 1 // -1 to 2
			if script/tasks%2 == 0 {
				b.lock(task)
			} else {
				b.unlock(task)
			}
			script /= deeds
		}
		b.check()
	}
}

func TestMutexRandomDeeds(t *testing.T) {
	r := rand.New(rand.NewPCG(8, 1))
	for range 300 {
		b := newMutexBoth(t)
		for range 150 {
			switch r.IntN(5) {
			case 0, 1:
				b.lock(r.IntN(12) - 1)
			case 2:
				b.unlock(r.IntN(12) - 1)
			case 3:
				b.unlock(b.m.holder())
			default:
				b.lock(oddTasks[r.IntN(len(oddTasks))])
			}
			b.check()
		}
	}
}

func power(base, exponent int) int {
	n := 1
	for range exponent {
		n *= base
	}
	return n
}

// Promise 8.2.

func TestRWOfNobody(t *testing.T) {
	x := lmutex.NewRW()
	holdersAre(t, x, false)
	waitersAre(t, x)
	mustNotUnlockRW(t, x, 0, reading)
	mustNotUnlockRW(t, x, 0, writing)
	holdersAre(t, x, false)
	waitersAre(t, x)
}

func TestRWInTurn(t *testing.T) {
	x := lmutex.NewRW()
	mustLockRW(t, x, 1, reading, true)
	mustLockRW(t, x, 2, reading, true)
	mustLockRW(t, x, 3, writing, false)
	mustLockRW(t, x, 4, reading, false)
	holdersAre(t, x, false, 1, 2)
	waitersAre(t, x, waiter(3, writing), waiter(4, reading))
	mustUnlockRW(t, x, 1, reading)
	holdersAre(t, x, false, 2)
	mustUnlockRW(t, x, 2, reading, 3)
	holdersAre(t, x, true, 3)
	waitersAre(t, x, waiter(4, reading))
	mustUnlockRW(t, x, 3, writing, 4)
	holdersAre(t, x, false, 4)
	waitersAre(t, x)
	mustUnlockRW(t, x, 4, reading)
	holdersAre(t, x, false)
	waitersAre(t, x)
}

func TestRWLastWriterUnlocks(t *testing.T) {
	x := lmutex.NewRW()
	mustLockRW(t, x, 6, writing, true)
	holdersAre(t, x, true, 6)
	mustUnlockRW(t, x, 6, writing)
	holdersAre(t, x, false)
	waitersAre(t, x)
	mustLockRW(t, x, 5, reading, true) // nothing of the writer is left
	mustLockRW(t, x, 6, reading, true)
	holdersAre(t, x, false, 5, 6)
}

func TestRWWriterBehindWriter(t *testing.T) {
	x := lmutex.NewRW()
	mustLockRW(t, x, 9, writing, true)
	mustLockRW(t, x, 4, writing, false)
	mustLockRW(t, x, 7, writing, false)
	waitersAre(t, x, waiter(4, writing), waiter(7, writing))
	mustUnlockRW(t, x, 9, writing, 4)
	holdersAre(t, x, true, 4)
	mustUnlockRW(t, x, 4, writing, 7)
	holdersAre(t, x, true, 7)
	mustUnlockRW(t, x, 7, writing)
	holdersAre(t, x, false)
}

func TestRWReadersBehindWriter(t *testing.T) {
	x := lmutex.NewRW()
	mustLockRW(t, x, 1, writing, true)
	for _, task := range []int{9, 3, 8, 0} {
		mustLockRW(t, x, task, reading, false)
	}
	holdersAre(t, x, true, 1)
	mustUnlockRW(t, x, 1, writing, 9, 3, 8, 0) // in the order of asking, not rising
	holdersAre(t, x, false, 0, 3, 8, 9)
	waitersAre(t, x)
}

func TestRWReadersThenWriterThenReaders(t *testing.T) {
	x := lmutex.NewRW()
	mustLockRW(t, x, 1, writing, true)
	mustLockRW(t, x, 6, reading, false)
	mustLockRW(t, x, 5, reading, false)
	mustLockRW(t, x, 4, writing, false)
	mustLockRW(t, x, 3, reading, false)
	mustLockRW(t, x, 2, reading, false)
	mustUnlockRW(t, x, 1, writing, 6, 5)
	holdersAre(t, x, false, 5, 6)
	waitersAre(t, x, waiter(4, writing), waiter(3, reading), waiter(2, reading))
	mustUnlockRW(t, x, 5, reading)
	waitersAre(t, x, waiter(4, writing), waiter(3, reading), waiter(2, reading))
	mustUnlockRW(t, x, 6, reading, 4)
	holdersAre(t, x, true, 4)
	waitersAre(t, x, waiter(3, reading), waiter(2, reading))
	mustUnlockRW(t, x, 4, writing, 3, 2)
	holdersAre(t, x, false, 2, 3)
	waitersAre(t, x)
}

func TestRWWriterBehindReadersThatGo(t *testing.T) {
	x := lmutex.NewRW()
	for task := range 5 {
		mustLockRW(t, x, task, reading, true)
	}
	mustLockRW(t, x, 9, writing, false)
	mustLockRW(t, x, 8, writing, false)
	for i, task := range []int{3, 0, 4, 1} {
		mustUnlockRW(t, x, task, reading)
		if tasks, writer := x.Holders(); len(tasks) != 4-i || writer {
			t.Fatalf("Holders: %v %v", tasks, writer)
		}
		waitersAre(t, x, waiter(9, writing), waiter(8, writing))
	}
	mustUnlockRW(t, x, 2, reading, 9) // one writer alone, though another stands behind it
	holdersAre(t, x, true, 9)
	waitersAre(t, x, waiter(8, writing))
}

func TestRWReaderGoesAndComesBack(t *testing.T) {
	x := lmutex.NewRW()
	mustLockRW(t, x, 1, reading, true)
	mustLockRW(t, x, 2, reading, true)
	mustLockRW(t, x, 3, writing, false)
	mustUnlockRW(t, x, 1, reading)
	mustLockRW(t, x, 1, reading, false) // it is one that asks while a writer waits
	waitersAre(t, x, waiter(3, writing), waiter(1, reading))
	mustUnlockRW(t, x, 2, reading, 3)
	mustLockRW(t, x, 2, writing, false)
	mustUnlockRW(t, x, 3, writing, 1)
	mustUnlockRW(t, x, 1, reading, 2)
	holdersAre(t, x, true, 2)
}

func TestRWHoldersRise(t *testing.T) {
	r := rand.New(rand.NewPCG(8, 2))
	for size := range 40 {
		x := lmutex.NewRW()
		var rising []int
		for i := range size {
			rising = append(rising, i*i)
		}
		for _, i := range r.Perm(size) {
			mustLockRW(t, x, rising[i], reading, true)
		}
		holdersAre(t, x, false, rising...)
	}
	x := lmutex.NewRW()
	for i := range oddTasks {
		mustLockRW(t, x, oddTasks[len(oddTasks)-1-i], reading, true)
	}
	holdersAre(t, x, false, oddTasks...)
}

func TestRWOfTaskZero(t *testing.T) {
	for _, reader := range []bool{reading, writing} {
		x := lmutex.NewRW()
		mustLockRW(t, x, 0, reader, true)
		holdersAre(t, x, !reader, 0)
		mustNotLockRW(t, x, 0, api.ErrHeld)
		mustNotUnlockRW(t, x, 0, !reader)
		mustUnlockRW(t, x, 0, reader)
		mustNotUnlockRW(t, x, 0, reader)
		mustLockRW(t, x, 1, writing, true)
		mustLockRW(t, x, 0, reader, false)
		waitersAre(t, x, waiter(0, reader))
		mustNotLockRW(t, x, 0, api.ErrHeld)
		mustNotUnlockRW(t, x, 0, reader)
		mustUnlockRW(t, x, 1, writing, 0)
		holdersAre(t, x, !reader, 0)
	}
}

func TestRWBelowZero(t *testing.T) {
	x := lmutex.NewRW()
	refuse := func() {
		t.Helper()
		holders, writer := x.Holders()
		waiters := x.Queue()
		for _, task := range belowZero {
			mustNotLockRW(t, x, task, api.ErrArg)
			mustNotUnlockRW(t, x, task, reading) // Unlock knows no ErrArg
			mustNotUnlockRW(t, x, task, writing)
			holdersAre(t, x, writer, holders...)
			waitersAre(t, x, waiters...)
		}
	}
	refuse()
	mustLockRW(t, x, 1, reading, true)
	refuse()
	mustLockRW(t, x, 2, writing, false)
	refuse()
	mustUnlockRW(t, x, 1, reading, 2)
	refuse()
	mustUnlockRW(t, x, 2, writing)
	refuse()
}

func TestRWAskedAgain(t *testing.T) {
	x := lmutex.NewRW()
	again := func(tasks ...int) {
		t.Helper()
		holders, writer := x.Holders()
		waiters := x.Queue()
		for _, task := range tasks {
			mustNotLockRW(t, x, task, api.ErrHeld)
			holdersAre(t, x, writer, holders...)
			waitersAre(t, x, waiters...)
		}
	}
	mustLockRW(t, x, 1, reading, true)
	again(1)
	mustLockRW(t, x, 2, reading, true)
	again(1, 2)
	mustLockRW(t, x, 3, writing, false)
	again(1, 2, 3)
	mustLockRW(t, x, 4, reading, false)
	again(1, 2, 3, 4)
	mustUnlockRW(t, x, 1, reading)
	mustUnlockRW(t, x, 2, reading, 3)
	again(3, 4)
	mustUnlockRW(t, x, 3, writing, 4)
	again(4)
	mustLockRW(t, x, 3, reading, true)
	again(3, 4)
}

func TestRWUnlockedByOthers(t *testing.T) {
	x := lmutex.NewRW()
	refuse := func(task int, reader bool) {
		t.Helper()
		holders, writer := x.Holders()
		waiters := x.Queue()
		mustNotUnlockRW(t, x, task, reader)
		holdersAre(t, x, writer, holders...)
		waitersAre(t, x, waiters...)
	}
	refuseBoth := func(tasks ...int) {
		t.Helper()
		for _, task := range tasks {
			refuse(task, reading)
			refuse(task, writing)
		}
	}
	refuseBoth(oddTasks...)
	mustLockRW(t, x, 11, reading, true)
	mustLockRW(t, x, 12, reading, true)
	refuse(11, writing) // it reads
	refuse(12, writing)
	mustLockRW(t, x, 13, writing, false)
	mustLockRW(t, x, 14, reading, false)
	refuseBoth(13, 14, 15) // the first two wait
	refuseBoth(oddTasks...)
	mustUnlockRW(t, x, 12, reading)
	refuseBoth(12) // a second time
	mustUnlockRW(t, x, 11, reading, 13)
	refuse(13, reading) // it writes
	refuseBoth(11, 12, 14, 15)
	mustUnlockRW(t, x, 13, writing, 14)
	refuse(14, writing)
	refuseBoth(13)
}

func TestRWsAreApart(t *testing.T) {
	a, b := lmutex.NewRW(), lmutex.NewRW()
	mustLockRW(t, a, 1, writing, true)
	mustLockRW(t, a, 2, reading, false)
	holdersAre(t, b, false)
	waitersAre(t, b)
	mustNotUnlockRW(t, b, 1, writing)
	mustLockRW(t, b, 1, reading, true)
	mustLockRW(t, b, 2, reading, true)
	holdersAre(t, a, true, 1)
	waitersAre(t, a, waiter(2, reading))
}

func TestRWZeroValue(t *testing.T) {
	x := new(lmutex.RW)
	holdersAre(t, x, false)
	mustNotUnlockRW(t, x, 0, reading)
	mustNotUnlockRW(t, x, 0, writing)
	mustLockRW(t, x, 0, reading, true)
	mustLockRW(t, x, 1, writing, false)
	holdersAre(t, x, false, 0)
	waitersAre(t, x, waiter(1, writing))
}

func TestRWNil(t *testing.T) {
	var x *lmutex.RW
	for _, task := range slices.Concat(belowZero, oddTasks) {
		mustNotLockRW(t, x, task, api.ErrArg)
		for _, reader := range []bool{reading, writing} {
			if l, err := x.Unlock(task, reader); len(l) != 0 || err != api.ErrArg {
				t.Errorf("Unlock(%d, %v): %v %d, want none %d", task, reader, l, err, api.ErrArg)
			}
		}
		holdersAre(t, x, false)
		waitersAre(t, x)
	}
}

// TestRWAllShortScripts does all rows of deeds of some length, each held against the model.
func TestRWAllShortScripts(t *testing.T) {
	const tasks, deeds, length = 3, 12, 5
	for script := range power(deeds, length) {
		b := newRWBoth(t)
		for range length {
			b.do(script/tasks%4, script%tasks)
			script /= deeds
		}
		b.check()
	}
}

// do is the deed of that number, 0 to 3.
func (b rwBoth) do(deed, task int) {
	b.t.Helper()
	if deed < 2 {
		b.lock(task, deed == 0)
	} else {
		b.unlock(task, deed == 2)
	}
}

func TestRWRandomDeeds(t *testing.T) {
	r := rand.New(rand.NewPCG(8, 3))
	for round := range 400 {
		b := newRWBoth(t)
		for range 150 {
			reader := r.IntN(1+round%5) > 0 // in some rounds writers alone, in others mostly readers
			switch r.IntN(6) {
			case 0, 1:
				b.lock(r.IntN(14)-1, reader)
			case 2:
				b.unlock(r.IntN(14)-1, reader)
			case 3, 4:
				if n := len(b.m.holders); n > 0 {
					w := b.m.holders[r.IntN(n)]
					b.unlock(w.Task, w.Reader)
				}
			default:
				b.lock(oddTasks[r.IntN(len(oddTasks))], reader)
			}
			b.check()
		}
	}
}

// R4: what is handed out shares no memory with what is kept, nor with another answer.

// spoil overwrites a list, and what lies behind its end.
func spoil[T any](l []T, with T) {
	l = l[:cap(l)]
	for i := range l {
		l[i] = with
	}
}

func TestMutexQueueIsNew(t *testing.T) {
	x := lmutex.New()
	for task := range 6 {
		x.Lock(task)
	}
	x.Unlock(0)
	one, other := x.Queue(), x.Queue()
	spoil(one, 77)
	mutexIs(t, x, 1, 2, 3, 4, 5)
	mustLock(t, x, 6, false)
	mustUnlock(t, x, 1, 2)
	if !slices.Equal(other, []int{2, 3, 4, 5}) {
		t.Errorf("an answer changed: %v", other)
	}
	spoil(x.Queue(), 77)
	mutexIs(t, x, 2, 3, 4, 5, 6)
	mustNotLock(t, x, 3, api.ErrHeld)
	mustLock(t, x, 77, false)
}

func TestRWListsAreNew(t *testing.T) {
	x := lmutex.NewRW()
	mustLockRW(t, x, 0, writing, true)
	for task := 1; task < 5; task++ {
		mustLockRW(t, x, task, reading, false)
	}
	mustLockRW(t, x, 5, writing, false)
	mustLockRW(t, x, 6, reading, false)
	got, _ := x.Unlock(0, writing)
	holders, _ := x.Holders()
	others, _ := x.Holders()
	queue, queues := x.Queue(), x.Queue()
	spoil(got, 77)
	spoil(holders, 78)
	spoil(queue, api.Wait{Task: 79})
	holdersAre(t, x, false, 1, 2, 3, 4)
	waitersAre(t, x, waiter(5, writing), waiter(6, reading))
	if !slices.Equal(others, []int{1, 2, 3, 4}) || !slices.Equal(queues, []api.Wait{waiter(5, writing), waiter(6, reading)}) {
		t.Errorf("another answer: %v %v", others, queues)
	}
	mustNotUnlockRW(t, x, 77, reading)
	mustLockRW(t, x, 7, writing, false)
	for task := 1; task < 4; task++ {
		mustUnlockRW(t, x, task, reading)
	}
	mustUnlockRW(t, x, 4, reading, 5)
	waitersAre(t, x, waiter(6, reading), waiter(7, writing))
	if !slices.Equal(others, []int{1, 2, 3, 4}) || !slices.Equal(queues, []api.Wait{waiter(5, writing), waiter(6, reading)}) {
		t.Errorf("an answer changed: %v %v", others, queues)
	}
}

func TestListsOfNoneAreNew(t *testing.T) {
	m, w := lmutex.New(), lmutex.NewRW()
	for task := range 4 {
		m.Lock(task)
		w.Lock(task, writing)
	}
	for task := range 4 {
		m.Unlock(task)
		w.Unlock(task, writing)
	}
	none, _ := w.Holders()
	_, _, _ = append(m.Queue(), 77), append(w.Queue(), waiter(77, reading)), append(none, 77)
	mustLock(t, m, 1, true)
	mustLock(t, m, 2, false)
	mutexIs(t, m, 1, 2)
	mustLockRW(t, w, 1, writing, true)
	mustLockRW(t, w, 2, reading, false)
	holdersAre(t, w, true, 1)
	waitersAre(t, w, waiter(2, reading))
}

// Promise 8.3.

func TestMutexGoesInTheOrderOfAsking(t *testing.T) {
	const tasks = 100_000
	x := lmutex.New()
	order := rand.New(rand.NewPCG(8, 4)).Perm(tasks)
	for i, task := range order {
		mustLock(t, x, task, i == 0)
	}
	for i, task := range order[:tasks-1] {
		mustUnlock(t, x, task, order[i+1])
		if i%3 == 0 {
			mustLock(t, x, task, false) // it comes back, behind all others
		}
	}
	last := order[tasks-1]
	for i := 0; i < tasks-1; i += 3 {
		mustUnlock(t, x, last, order[i])
		last = order[i]
	}
	mustUnlock(t, x, last, -1)
	mutexIs(t, x, -1)
}

func TestMutexRound(t *testing.T) {
	x := lmutex.New()
	for task := range 5 {
		mustLock(t, x, task, task == 0)
	}
	for turn := range 1000 { // each that unlocks comes back at once
		mustUnlock(t, x, turn%5, (turn+1)%5)
		mustLock(t, x, turn%5, false)
		mutexIs(t, x, (turn+1)%5, (turn+2)%5, (turn+3)%5, (turn+4)%5, turn%5)
	}
}

func TestRWManyInTheOrderOfAsking(t *testing.T) {
	const groups, readers = 2000, 20
	x := lmutex.NewRW()
	mustLockRW(t, x, 0, writing, true)
	group := func(n int) []int { // a writer's readers, falling
		var tasks []int
		for i := range readers {
			tasks = append(tasks, n*100+readers-i)
		}
		return tasks
	}
	for n := range groups {
		for _, task := range group(n) {
			mustLockRW(t, x, task, reading, false)
		}
		mustLockRW(t, x, (n+1)*100, writing, false)
	}
	for n := range groups {
		mustUnlockRW(t, x, n*100, writing, group(n)...)
		for _, task := range group(n)[1:] {
			mustUnlockRW(t, x, task, reading)
		}
		mustUnlockRW(t, x, group(n)[0], reading, (n+1)*100)
		holdersAre(t, x, true, (n+1)*100)
	}
	mustUnlockRW(t, x, groups*100, writing)
	holdersAre(t, x, false)
	waitersAre(t, x)
}

func TestReaderBehindWriterThatWaits(t *testing.T) {
	x := lmutex.NewRW()
	mustLockRW(t, x, 1, reading, true)
	mustLockRW(t, x, 2, writing, false)
	for task := 3; task < 9; task++ {
		mustLockRW(t, x, task, reading, false) // though readers alone hold it
	}
	holdersAre(t, x, false, 1)
	mustUnlockRW(t, x, 1, reading, 2)
	holdersAre(t, x, true, 2)
	mustLockRW(t, x, 1, reading, false)
	mustUnlockRW(t, x, 2, writing, 3, 4, 5, 6, 7, 8, 1)
}

// TestNobodyOvertakesAWriter gives each that asks a number, and looks at the numbers of those that get it.
func TestNobodyOvertakesAWriter(t *testing.T) {
	r := rand.New(rand.NewPCG(8, 5))
	for round := range 100 {
		o := order{t: t, x: lmutex.NewRW(), since: map[int]int{}, writes: map[int]bool{}, waits: map[int]bool{}}
		for range 300 {
			task := r.IntN(10)
			if _, known := o.since[task]; !known {
				o.lock(task, r.IntN(2+round%4) > 0)
			} else if !o.waits[task] {
				o.unlock(task)
			}
		}
	}
}

// order tells of each task that holds the rwlock or waits for it when it asked, and how.
type order struct {
	t             *testing.T
	x             *lmutex.RW
	asked         int
	since         map[int]int
	writes, waits map[int]bool
}

func (o *order) lock(task int, reader bool) {
	o.t.Helper()
	o.asked++
	o.since[task], o.writes[task] = o.asked, !reader
	got, err := o.x.Lock(task, reader)
	if err != api.OK {
		o.t.Fatalf("Lock(%d, %v): %d", task, reader, err)
	}
	if o.waits[task] = true; got {
		o.grant(task)
	}
}

func (o *order) unlock(task int) {
	o.t.Helper()
	got, err := o.x.Unlock(task, !o.writes[task])
	if err != api.OK {
		o.t.Fatalf("Unlock(%d): %d", task, err)
	}
	delete(o.since, task)
	for _, other := range got {
		o.grant(other)
	}
	if len(o.waits) > 0 && len(o.waits) == len(o.since) {
		o.t.Fatalf("nobody holds it, and %v wait", o.waits)
	}
}

// grant looks whether the task may get it now: no writer that waits asked ahead of it, a writer is alone, and no reader is beside one.
func (o *order) grant(task int) {
	o.t.Helper()
	delete(o.waits, task)
	for other, at := range o.since {
		switch {
		case other == task:
		case o.waits[other] && (o.writes[other] || o.writes[task]) && at < o.since[task]:
			o.t.Fatalf("%d got it ahead of %d", task, other)
		case !o.waits[other] && (o.writes[other] || o.writes[task]):
			o.t.Fatalf("%d got it beside %d", task, other)
		}
	}
}

func FuzzDeeds(f *testing.F) {
	f.Add([]byte{0, 1, 0, 2, 1, 3, 0, 4, 2, 1, 2, 2, 3, 3})
	f.Fuzz(func(t *testing.T, script []byte) {
		m, w := newMutexBoth(t), newRWBoth(t)
		for i := 0; i+1 < len(script) && i < 400; i += 2 {
			deed, task := int(script[i]%4), int(int8(script[i+1]))%8
			w.do(deed, task)
			if deed < 2 {
				m.lock(task)
			} else {
				m.unlock(task)
			}
			m.check()
			w.check()
		}
	})
}

package sched_test

import (
	"math"
	"math/rand/v2"
	"slices"
	"testing"

	"latchkey/api"
	"latchkey/sched"
)

// oddInts are numbers at the edges of what an int holds, beside others.
var oddInts = []int{0, 1, 2, 9, 10, -1, -2, -9, api.MaxCount, -api.MaxCount, math.MaxInt32, math.MinInt32, math.MaxInt - 1, math.MaxInt, math.MinInt + 1, math.MinInt}

func lock(obj int) api.Op    { return api.Op{Kind: api.OpLock, Obj: obj} }
func unlock(obj int) api.Op  { return api.Op{Kind: api.OpUnlock, Obj: obj} }
func wlock(obj int) api.Op   { return api.Op{Kind: api.OpLock, Obj: obj, N: 1} }
func wunlock(obj int) api.Op { return api.Op{Kind: api.OpUnlock, Obj: obj, N: 1} }
func rlock(obj int) api.Op   { return api.Op{Kind: api.OpRLock, Obj: obj} }
func runlock(obj int) api.Op { return api.Op{Kind: api.OpRUnlock, Obj: obj} }
func add(obj, n int) api.Op  { return api.Op{Kind: api.OpAdd, Obj: obj, N: n} }
func wait(obj int) api.Op    { return api.Op{Kind: api.OpWait, Obj: obj} }
func do(obj int) api.Op      { return api.Op{Kind: api.OpDo, Obj: obj} }
func end(obj int) api.Op     { return api.Op{Kind: api.OpEnd, Obj: obj} }
func yield() api.Op          { return api.Op{Kind: api.OpYield} }
func odd(kind int) api.Op    { return api.Op{Kind: kind, Obj: 1} }

// claim is one that holds an rwlock, or waits for it.
type claim struct {
	task   int
	reader bool
}

// rwModel is an rwlock told as plainly as its chapter does.
type rwModel struct{ holders, waiters []claim }

func isOf(task int) func(claim) bool { return func(c claim) bool { return c.task == task } }

func isWriter(c claim) bool { return !c.reader }

func (m *rwModel) mayHold(reader bool) bool {
	if reader {
		return !slices.ContainsFunc(m.holders, isWriter)
	}
	return len(m.holders) == 0
}

// onceModel is a once told as plainly as its chapter does.
type onceModel struct {
	begun, done bool
	by          int
	row         []int
}

// model is a scheduler told as plainly as the chapter does, with objects of its own.
type model struct {
	tasks   [][]api.Op
	at      []int
	waiting []bool
	inside  [][]int // the onces that each task runs and has not ended
	behind  []map[int]int
	mutexes map[int][]int // the first one holds it, the others wait
	rws     map[int]*rwModel
	counts  map[int]int64
	rows    map[int][]int // who waits for a count
	onces   map[int]*onceModel
}

func newModel(tasks [][]api.Op) *model {
	m := &model{
		tasks: tasks, at: make([]int, len(tasks)), waiting: make([]bool, len(tasks)), inside: make([][]int, len(tasks)),
		mutexes: map[int][]int{}, rws: map[int]*rwModel{}, counts: map[int]int64{}, rows: map[int][]int{}, onces: map[int]*onceModel{},
	}
	for _, ops := range tasks {
		m.behind = append(m.behind, pairs(ops))
	}
	return m
}

// pairs gives for each OpDo the place behind the OpEnd that belongs to it: an OpEnd belongs to the last OpDo ahead of it that has none yet.
func pairs(ops []api.Op) map[int]int {
	behind := map[int]int{}
	var open []int
	for i, op := range ops {
		switch {
		case op.Kind == api.OpDo:
			open = append(open, i)
		case op.Kind == api.OpEnd && len(open) > 0:
			behind[open[len(open)-1]] = i + 1
			open = open[:len(open)-1]
		}
	}
	for _, i := range open {
		behind[i] = len(ops)
	}
	return behind
}

func (m *model) ready() []int {
	var l []int
	for i, ops := range m.tasks {
		if !m.waiting[i] && m.at[i] < len(ops) {
			l = append(l, i)
		}
	}
	return l
}

func (m *model) blocked() []int {
	var l []int
	for i, w := range m.waiting {
		if w {
			l = append(l, i)
		}
	}
	return l
}

func (m *model) ended() bool { return len(m.ready()) == 0 && len(m.blocked()) == 0 }

// pass lets a task that waited, or need not wait, go on.
func (m *model) pass(task int) {
	m.waiting[task] = false
	if m.tasks[task][m.at[task]].Kind == api.OpDo {
		m.at[task] = m.behind[task][m.at[task]]
	} else {
		m.at[task]++
	}
}

func (m *model) step(task int) (api.Event, api.Errno) {
	if !slices.Contains(m.ready(), task) {
		return api.Event{}, api.ErrArg
	}
	at := m.at[task]
	return api.Event{Task: task, At: at, Err: m.op(task, m.tasks[task][at])}, api.OK
}

func (m *model) op(task int, op api.Op) api.Errno {
	err := api.ErrArg
	switch {
	case op.Kind == api.OpLock && op.N == 0:
		return m.lock(task, op.Obj)
	case op.Kind == api.OpLock && op.N == 1:
		return m.lockRW(task, op.Obj, false)
	case op.Kind == api.OpRLock:
		return m.lockRW(task, op.Obj, true)
	case op.Kind == api.OpWait:
		return m.wait(task, op.Obj)
	case op.Kind == api.OpDo:
		return m.do(task, op.Obj)
	case op.Kind == api.OpUnlock && op.N == 0:
		err = m.unlock(task, op.Obj)
	case op.Kind == api.OpUnlock && op.N == 1:
		err = m.unlockRW(task, op.Obj, false)
	case op.Kind == api.OpRUnlock:
		err = m.unlockRW(task, op.Obj, true)
	case op.Kind == api.OpAdd:
		err = m.add(op.Obj, op.N)
	case op.Kind == api.OpEnd:
		err = m.end(task, op.Obj)
	case op.Kind == api.OpYield:
		err = api.OK
	}
	m.at[task]++
	return err
}

func (m *model) lock(task, obj int) api.Errno {
	row := m.mutexes[obj]
	if slices.Contains(row, task) {
		m.at[task]++
		return api.ErrHeld
	}
	m.mutexes[obj] = append(row, task)
	if len(row) == 0 {
		m.pass(task)
	} else {
		m.waiting[task] = true
	}
	return api.OK
}

func (m *model) unlock(task, obj int) api.Errno {
	row := m.mutexes[obj]
	if len(row) == 0 || row[0] != task {
		return api.ErrNotHeld
	}
	m.mutexes[obj] = row[1:]
	if len(row) > 1 {
		m.pass(row[1])
	}
	return api.OK
}

func (m *model) rw(obj int) *rwModel {
	if m.rws[obj] == nil {
		m.rws[obj] = &rwModel{}
	}
	return m.rws[obj]
}

func (m *model) lockRW(task, obj int, reader bool) api.Errno {
	x := m.rw(obj)
	if slices.ContainsFunc(x.holders, isOf(task)) {
		m.at[task]++
		return api.ErrHeld
	}
	if x.mayHold(reader) && len(x.waiters) == 0 {
		x.holders = append(x.holders, claim{task, reader})
		m.pass(task)
	} else {
		x.waiters = append(x.waiters, claim{task, reader})
		m.waiting[task] = true
	}
	return api.OK
}

func (m *model) unlockRW(task, obj int, reader bool) api.Errno {
	x := m.rw(obj)
	i := slices.Index(x.holders, claim{task, reader})
	if i < 0 {
		return api.ErrNotHeld
	}
	x.holders = slices.Delete(x.holders, i, i+1)
	for len(x.waiters) > 0 && x.mayHold(x.waiters[0].reader) {
		x.holders = append(x.holders, x.waiters[0])
		m.pass(x.waiters[0].task)
		x.waiters = x.waiters[1:]
	}
	return api.OK
}

func (m *model) add(obj, n int) api.Errno {
	if n > 1<<30 || n < -(1<<30) || m.counts[obj]+int64(n) > 1<<30 {
		return api.ErrRange
	}
	if m.counts[obj]+int64(n) < 0 {
		return api.ErrNegative
	}
	m.counts[obj] += int64(n)
	if m.counts[obj] == 0 {
		for _, task := range m.rows[obj] {
			m.pass(task)
		}
		m.rows[obj] = nil
	}
	return api.OK
}

func (m *model) wait(task, obj int) api.Errno {
	if m.counts[obj] == 0 {
		m.pass(task)
	} else {
		m.rows[obj] = append(m.rows[obj], task)
		m.waiting[task] = true
	}
	return api.OK
}

func (m *model) once(obj int) *onceModel {
	if m.onces[obj] == nil {
		m.onces[obj] = &onceModel{}
	}
	return m.onces[obj]
}

func (m *model) do(task, obj int) api.Errno {
	x := m.once(obj)
	switch {
	case !x.begun:
		x.begun, x.by = true, task
		m.inside[task] = append(m.inside[task], obj)
		m.at[task]++
	case x.done:
		m.pass(task)
	case x.by == task:
		m.at[task]++
		return api.ErrHeld
	default:
		x.row = append(x.row, task)
		m.waiting[task] = true
	}
	return api.OK
}

func (m *model) end(task, obj int) api.Errno {
	l := m.inside[task]
	if len(l) == 0 || l[len(l)-1] != obj {
		return api.ErrArg
	}
	m.inside[task] = l[:len(l)-1]
	x := m.once(obj)
	x.done = true
	for _, other := range x.row {
		m.pass(other)
	}
	x.row = nil
	return api.OK
}

// run is what the chapter says of Run, word by word.
func (m *model) run(picks []int) ([]api.Event, bool) {
	var events []api.Event
	one := func(pick int) {
		ready := m.ready()
		if len(ready) == 0 || len(events) == 10000 {
			return
		}
		place := pick % len(ready)
		if place < 0 {
			place += len(ready)
		}
		event, _ := m.step(ready[place])
		events = append(events, event)
	}
	for _, pick := range picks {
		one(pick)
	}
	for len(m.ready()) > 0 && len(events) < 10000 {
		one(0)
	}
	return events, m.ended()
}

// both is a scheduler and its model, to which the same is done.
type both struct {
	t *testing.T
	s *sched.Sched
	m *model
}

func newBoth(t *testing.T, tasks [][]api.Op) both {
	return both{t, sched.New(tasks), newModel(tasks)}
}

func (b both) step(task int) {
	b.t.Helper()
	got, err := b.s.Step(task)
	want, wantErr := b.m.step(task)
	if got != want || err != wantErr {
		b.t.Fatalf("%v: Step(%d): %v %d, want %v %d", b.m.tasks, task, got, err, want, wantErr)
	}
}

func (b both) check() {
	b.t.Helper()
	stands(b.t, b.s, b.m.ready(), b.m.blocked())
}

// stands asks who is ready and who is blocked, and whether all are at their end, which they are if nobody is either.
func stands(t *testing.T, s *sched.Sched, ready, blocked []int) {
	t.Helper()
	if got := s.Ready(); !slices.Equal(got, ready) {
		t.Fatalf("Ready: %v, want %v", got, ready)
	}
	if got := s.Blocked(); !slices.Equal(got, blocked) {
		t.Fatalf("Blocked: %v, want %v", got, blocked)
	}
	if got, want := s.Ended(), len(ready) == 0 && len(blocked) == 0; got != want {
		t.Fatalf("Ended: %v, want %v", got, want)
	}
}

// tasks spares the writing of []int{..}.
func tasks(l ...int) []int { return l }

// mustStep does a step that the scheduler does, with that error of the operation.
func mustStep(t *testing.T, s *sched.Sched, task, at int, want api.Errno) {
	t.Helper()
	if got, err := s.Step(task); got != (api.Event{Task: task, At: at, Err: want}) || err != api.OK {
		t.Fatalf("Step(%d): %v %d, want place %d, error %d", task, got, err, at, want)
	}
}

// mustGo does steps of one task, from that place on, all without error.
func mustGo(t *testing.T, s *sched.Sched, task, from, steps int) {
	t.Helper()
	for i := range steps {
		mustStep(t, s, task, from+i, api.OK)
	}
}

// mustNotStep asks for a step that the scheduler does not do.
func mustNotStep(t *testing.T, s *sched.Sched, task int) {
	t.Helper()
	if got, err := s.Step(task); got != (api.Event{}) || err != api.ErrArg {
		t.Fatalf("Step(%d): %v %d, want nothing and %d", task, got, err, api.ErrArg)
	}
}

// mustRun asks for a run that the model does too.
func mustRun(t *testing.T, ops [][]api.Op, picks []int) {
	t.Helper()
	got, ended := sched.Run(ops, picks)
	want, wantEnded := newModel(ops).run(picks)
	if !slices.Equal(got, want) || ended != wantEnded {
		t.Fatalf("Run(%v, %v): %v %v, want %v %v", ops, picks, got, ended, want, wantEnded)
	}
}

// same gives n tasks with those operations.
func same(n int, ops ...api.Op) [][]api.Op {
	l := make([][]api.Op, n)
	for i := range l {
		l[i] = slices.Clone(ops)
	}
	return l
}

// Promise 10.1.

func TestNothingWasDone(t *testing.T) {
	s := sched.New([][]api.Op{{lock(1)}, {}, {yield(), yield()}, nil, {odd(0)}})
	stands(t, s, tasks(0, 2, 4), nil)
	stands(t, s, tasks(0, 2, 4), nil) // asking changes nothing
}

func TestNoTasks(t *testing.T) {
	for _, ops := range [][][]api.Op{nil, {}, {nil}, {{}}, {{}, nil, {}}} {
		s := sched.New(ops)
		if s == nil {
			t.Fatalf("New(%v): nil", ops)
		}
		stands(t, s, nil, nil)
		for _, task := range oddInts {
			mustNotStep(t, s, task)
		}
	}
}

func TestOneTaskAlone(t *testing.T) {
	s := sched.New([][]api.Op{{lock(1), yield(), unlock(1), wait(2), do(3), end(3)}})
	for at := range 6 {
		stands(t, s, tasks(0), nil)
		mustStep(t, s, 0, at, api.OK)
	}
	stands(t, s, nil, nil)
	mustNotStep(t, s, 0)
}

func TestTwoLockOne(t *testing.T) {
	s := sched.New(same(2, lock(1), unlock(1)))
	mustStep(t, s, 0, 0, api.OK)
	mustStep(t, s, 1, 0, api.OK)
	stands(t, s, tasks(0), tasks(1))
	mustStep(t, s, 0, 1, api.OK)
	stands(t, s, tasks(1), nil)
	mustStep(t, s, 1, 1, api.OK)
	stands(t, s, nil, nil)
}

func TestTwoLockCrosswise(t *testing.T) {
	s := sched.New([][]api.Op{{lock(1), lock(2)}, {lock(2), lock(1)}})
	mustGo(t, s, 0, 0, 1)
	mustGo(t, s, 1, 0, 1)
	stands(t, s, tasks(0, 1), nil)
	mustStep(t, s, 0, 1, api.OK)
	stands(t, s, tasks(1), tasks(0))
	mustStep(t, s, 1, 1, api.OK)
	stands(t, s, nil, tasks(0, 1))
	mustNotStep(t, s, 0)
	mustNotStep(t, s, 1)
}

func TestMutexGoesOnInTheOrderOfAsking(t *testing.T) {
	s := sched.New(same(4, lock(1), unlock(1), yield()))
	for _, task := range tasks(2, 3, 0, 1) {
		mustStep(t, s, task, 0, api.OK)
	}
	stands(t, s, tasks(2), tasks(0, 1, 3))
	mustStep(t, s, 2, 1, api.OK)
	stands(t, s, tasks(2, 3), tasks(0, 1))
	mustStep(t, s, 3, 1, api.OK)
	stands(t, s, tasks(0, 2, 3), tasks(1))
	mustStep(t, s, 0, 1, api.OK)
	stands(t, s, tasks(0, 1, 2, 3), nil)
}

func TestReadersAndWriters(t *testing.T) {
	reader, writer := []api.Op{rlock(1), runlock(1)}, []api.Op{wlock(1), wunlock(1)}
	s := sched.New([][]api.Op{reader, reader, writer, reader, reader, writer})
	for task := range 6 {
		mustStep(t, s, task, 0, api.OK)
	}
	stands(t, s, tasks(0, 1), tasks(2, 3, 4, 5))
	mustStep(t, s, 1, 1, api.OK)
	stands(t, s, tasks(0), tasks(2, 3, 4, 5))
	mustStep(t, s, 0, 1, api.OK)
	stands(t, s, tasks(2), tasks(3, 4, 5))
	mustStep(t, s, 2, 1, api.OK)
	stands(t, s, tasks(3, 4), tasks(5))
	mustStep(t, s, 3, 1, api.OK)
	mustStep(t, s, 4, 1, api.OK)
	stands(t, s, tasks(5), nil)
	mustStep(t, s, 5, 1, api.OK)
	stands(t, s, nil, nil)
}

func TestGroupThatSeveralWaitFor(t *testing.T) {
	s := sched.New([][]api.Op{{wait(1), yield()}, {add(1, 2), add(1, -1), add(1, -1)}, {wait(1)}, {wait(1), yield()}})
	mustStep(t, s, 1, 0, api.OK)
	for _, task := range tasks(3, 0, 2) {
		mustStep(t, s, task, 0, api.OK)
	}
	stands(t, s, tasks(1), tasks(0, 2, 3))
	mustStep(t, s, 1, 1, api.OK)
	stands(t, s, tasks(1), tasks(0, 2, 3))
	mustStep(t, s, 1, 2, api.OK)
	stands(t, s, tasks(0, 3), nil) // 2 and 1 are at their end
	mustNotStep(t, s, 2)
	mustStep(t, s, 0, 1, api.OK)
	mustStep(t, s, 3, 1, api.OK)
	stands(t, s, nil, nil)
}

func TestGroupThatNobodyWaitsFor(t *testing.T) {
	s := sched.New([][]api.Op{{wait(1), add(1, 0), wait(1), add(1, 3), add(1, -3), wait(1)}})
	mustGo(t, s, 0, 0, 6)
	stands(t, s, nil, nil)
}

func TestGroupThatNobodyFrees(t *testing.T) {
	s := sched.New([][]api.Op{{add(1, 1), wait(1)}, {wait(1), add(1, -1)}})
	mustGo(t, s, 0, 0, 2)
	mustGo(t, s, 1, 0, 1)
	stands(t, s, nil, tasks(0, 1))
}

func TestOnceThatSeveralComeTo(t *testing.T) {
	s := sched.New([][]api.Op{{do(1), yield(), end(1), yield()}, {do(1), yield(), end(1)}, {do(1), yield(), end(1), yield()}, {do(1), yield(), end(1), yield()}})
	mustStep(t, s, 2, 0, api.OK) // runs it
	mustStep(t, s, 0, 0, api.OK)
	mustStep(t, s, 1, 0, api.OK)
	stands(t, s, tasks(2, 3), tasks(0, 1))
	mustGo(t, s, 2, 1, 1)
	stands(t, s, tasks(2, 3), tasks(0, 1))
	mustStep(t, s, 2, 2, api.OK)
	stands(t, s, tasks(0, 2, 3), nil) // 1 is at its end
	mustStep(t, s, 0, 3, api.OK)
	mustStep(t, s, 2, 3, api.OK)
	mustStep(t, s, 3, 0, api.OK) // it is done: passed over at once
	stands(t, s, tasks(3), nil)
	mustStep(t, s, 3, 3, api.OK)
	stands(t, s, nil, nil)
}

func TestStepOfOneThatIsNotReady(t *testing.T) {
	s := sched.New([][]api.Op{{lock(1), yield()}, {lock(1), yield()}, {yield()}, {}})
	mustStep(t, s, 0, 0, api.OK)
	mustStep(t, s, 1, 0, api.OK)
	mustStep(t, s, 2, 0, api.OK)
	for range 2 {
		for _, task := range tasks(1, 2, 3, 4, 5, 7, 8, 63, 64, -1, -2, -4, -8, math.MaxInt32, math.MinInt32, math.MaxInt-1, math.MaxInt, math.MinInt+1, math.MinInt) {
			mustNotStep(t, s, task)
			stands(t, s, tasks(0), tasks(1))
		}
	}
	mustStep(t, s, 0, 1, api.OK)
	mustNotStep(t, s, 0)
	stands(t, s, nil, tasks(1))
}

func TestStepOnePastTheLast(t *testing.T) {
	for n := range 70 {
		s := sched.New(same(n, yield()))
		for _, task := range tasks(n, n+1, 2*n+1, -1, -n-1) {
			mustNotStep(t, s, task)
		}
		for task := range n {
			mustStep(t, s, task, 0, api.OK)
			mustNotStep(t, s, task)
		}
		stands(t, s, nil, nil)
	}
}

func TestOtherKinds(t *testing.T) {
	for _, kind := range tasks(0, 10, 11, 16, -1, -2, -9, 256+1, 1<<32+1, math.MaxInt32, math.MinInt32, math.MaxInt, math.MinInt) {
		for _, n := range tasks(0, 1, 2) {
			s := sched.New([][]api.Op{{{Kind: kind, Obj: 1, N: n}, yield()}, {{Kind: kind, Obj: 1, N: n}}})
			mustStep(t, s, 0, 0, api.ErrArg)
			stands(t, s, tasks(0, 1), nil)
			mustStep(t, s, 0, 1, api.OK)
			mustStep(t, s, 1, 0, api.ErrArg)
			stands(t, s, nil, nil)
		}
	}
}

func TestYieldWhateverElseItHas(t *testing.T) {
	for _, obj := range oddInts {
		for _, n := range oddInts {
			s := sched.New([][]api.Op{{{Kind: api.OpYield, Obj: obj, N: n}}})
			mustStep(t, s, 0, 0, api.OK)
			stands(t, s, nil, nil)
		}
	}
}

func TestLockWithAnotherN(t *testing.T) {
	for _, n := range oddInts {
		if n == 0 || n == 1 {
			continue
		}
		wrong := api.Op{Kind: api.OpLock, Obj: 1, N: n}
		wrongUn := api.Op{Kind: api.OpUnlock, Obj: 1, N: n}
		s := sched.New([][]api.Op{{wrong, wrongUn, lock(1), wlock(1), wrong, wrongUn, unlock(1), wunlock(1)}, {wrong, lock(1), wlock(1)}})
		mustStep(t, s, 0, 0, api.ErrArg)
		mustStep(t, s, 0, 1, api.ErrArg)
		mustGo(t, s, 0, 2, 2)
		mustStep(t, s, 0, 4, api.ErrArg)
		mustStep(t, s, 1, 0, api.ErrArg)
		mustStep(t, s, 1, 1, api.OK)
		stands(t, s, tasks(0), tasks(1))
		mustStep(t, s, 0, 5, api.ErrArg)
		stands(t, s, tasks(0), tasks(1)) // neither is let go
		mustStep(t, s, 0, 6, api.OK)
		mustStep(t, s, 1, 2, api.OK)
		stands(t, s, tasks(0), tasks(1))
		mustStep(t, s, 0, 7, api.OK)
		stands(t, s, nil, nil)
	}
}

// Where the chapter gives N no meaning, it has none.
func TestNWithoutMeaning(t *testing.T) {
	with := func(op api.Op, n int) api.Op {
		op.N = n
		return op
	}
	for _, n := range oddInts {
		s := sched.New([][]api.Op{
			{with(rlock(1), n), with(runlock(1), n), with(wait(1), n), with(do(1), n), with(end(1), n)},
			{with(rlock(1), n), with(do(1), n), yield(), with(end(1), n), wlock(1)},
		})
		mustStep(t, s, 0, 0, api.OK)
		mustStep(t, s, 1, 0, api.OK)
		mustGo(t, s, 0, 1, 3)
		mustStep(t, s, 1, 1, api.OK)
		stands(t, s, tasks(0), tasks(1))
		mustStep(t, s, 0, 4, api.OK)
		mustStep(t, s, 1, 4, api.ErrHeld)
		stands(t, s, nil, nil)
	}
}

func TestEveryNumberNamesAnObject(t *testing.T) {
	for _, a := range oddInts {
		for _, b := range oddInts {
			s := sched.New([][]api.Op{
				{lock(a), wlock(a), add(a, 1), do(a)},
				{lock(b), unlock(b), rlock(b), runlock(b), wait(b), do(b), yield(), end(b)},
			})
			mustGo(t, s, 0, 0, 4)
			if a == b {
				mustStep(t, s, 1, 0, api.OK)
				stands(t, s, nil, tasks(1))
				continue
			}
			mustGo(t, s, 1, 0, 8)
			stands(t, s, nil, nil)
		}
	}
}

// Each object of that number is taken; those of the other kinds are not.
func TestSameNumberOfOtherKinds(t *testing.T) {
	asks := []api.Op{lock(1), wlock(1), wait(1), do(1)}
	takes := []api.Op{lock(1), wlock(1), add(1, 1), do(1)}
	for i, take := range takes {
		for j, ask := range asks {
			s := sched.New([][]api.Op{{take}, {ask, yield()}})
			mustStep(t, s, 0, 0, api.OK)
			mustStep(t, s, 1, 0, api.OK)
			switch {
			case i == j:
				stands(t, s, nil, tasks(1))
			default:
				stands(t, s, tasks(1), nil)
				mustStep(t, s, 1, 1, api.OK)
			}
		}
	}
}

// An OpLock with N 1 and an OpRLock are of one rwlock.
func TestOneRWLockForBoth(t *testing.T) {
	s := sched.New([][]api.Op{{wlock(1), wunlock(1)}, {rlock(1), runlock(1)}, {wlock(1), wunlock(1)}, {rlock(2)}})
	mustStep(t, s, 0, 0, api.OK)
	mustStep(t, s, 1, 0, api.OK)
	mustStep(t, s, 2, 0, api.OK)
	mustStep(t, s, 3, 0, api.OK)
	stands(t, s, tasks(0), tasks(1, 2))
	mustStep(t, s, 0, 1, api.OK)
	stands(t, s, tasks(1), tasks(2))
	mustStep(t, s, 1, 1, api.OK)
	stands(t, s, tasks(2), nil)
}

func TestLockOfWhatItHolds(t *testing.T) {
	s := sched.New([][]api.Op{
		{lock(1), lock(1), wlock(2), wlock(2), rlock(2), rlock(3), rlock(3), wlock(3), unlock(1), wunlock(2), runlock(3)},
		{lock(1), wlock(2), wlock(3)},
	})
	for at, want := range []api.Errno{0, api.ErrHeld, 0, api.ErrHeld, api.ErrHeld, 0, api.ErrHeld, api.ErrHeld} {
		mustStep(t, s, 0, at, want)
		mustNotStep(t, s, 2)
	}
	for at := range 3 {
		mustStep(t, s, 1, at, api.OK)
		stands(t, s, tasks(0), tasks(1))
		mustStep(t, s, 0, 8+at, api.OK) // once is enough, however often it was asked for
	}
	stands(t, s, nil, nil)
}

func TestUnlockOfWhatItDoesNotHold(t *testing.T) {
	s := sched.New([][]api.Op{
		{unlock(1), wunlock(1), runlock(1), lock(1), wunlock(1), runlock(1), unlock(2), unlock(1), unlock(1)},
	})
	for at, want := range []api.Errno{api.ErrNotHeld, api.ErrNotHeld, api.ErrNotHeld, 0, api.ErrNotHeld, api.ErrNotHeld, api.ErrNotHeld, 0, api.ErrNotHeld} {
		stands(t, s, tasks(0), nil)
		mustStep(t, s, 0, at, want)
	}
	stands(t, s, nil, nil)
}

func TestUnlockInAnotherWay(t *testing.T) {
	s := sched.New([][]api.Op{
		{wlock(1), runlock(1), unlock(1), wunlock(1), rlock(1), wunlock(1), unlock(1), runlock(1)},
		{rlock(1), runlock(1), wlock(1)},
	})
	mustStep(t, s, 0, 0, api.OK)
	mustStep(t, s, 1, 0, api.OK)
	mustStep(t, s, 0, 1, api.ErrNotHeld)
	mustStep(t, s, 0, 2, api.ErrNotHeld)
	stands(t, s, tasks(0), tasks(1))
	mustStep(t, s, 0, 3, api.OK)
	mustStep(t, s, 0, 4, api.OK)
	mustStep(t, s, 1, 1, api.OK)
	mustStep(t, s, 1, 2, api.OK)
	mustStep(t, s, 0, 5, api.ErrNotHeld)
	mustStep(t, s, 0, 6, api.ErrNotHeld)
	stands(t, s, tasks(0), tasks(1))
	mustStep(t, s, 0, 7, api.OK)
	stands(t, s, nil, nil)
}

func TestUnlockOfWhatAnotherHolds(t *testing.T) {
	s := sched.New([][]api.Op{
		{lock(1), wlock(1), rlock(2), unlock(1), wunlock(1), runlock(2)},
		{unlock(1), wunlock(1), runlock(1), runlock(2), wunlock(2)},
		{lock(1), wlock(1), wlock(2)},
	})
	mustGo(t, s, 0, 0, 3)
	mustStep(t, s, 2, 0, api.OK)
	for at := range 5 {
		mustStep(t, s, 1, at, api.ErrNotHeld)
		if slices.Contains(s.Ready(), 2) {
			t.Fatal("2 goes on")
		}
	}
	for at := range 3 {
		stands(t, s, tasks(0), tasks(2))
		mustStep(t, s, 0, 3+at, api.OK)
		if at < 2 {
			mustStep(t, s, 2, 1+at, api.OK)
		}
	}
	stands(t, s, nil, nil)
}

func TestAddAtItsEdges(t *testing.T) {
	s := sched.New([][]api.Op{
		{
			add(1, -1), add(1, api.MaxCount+1), add(1, -api.MaxCount-1), add(1, math.MinInt), add(1, math.MaxInt),
			add(1, api.MaxCount), add(1, 1), add(1, api.MaxCount), add(1, 0), add(1, -api.MaxCount), add(1, -api.MaxCount), wait(1),
		},
		{wait(1)},
	})
	for at, want := range []api.Errno{api.ErrNegative, api.ErrRange, api.ErrRange, api.ErrRange, api.ErrRange, 0} {
		mustStep(t, s, 0, at, want)
	}
	mustStep(t, s, 1, 0, api.OK)
	for at, want := range []api.Errno{api.ErrRange, api.ErrRange, 0} {
		mustStep(t, s, 0, 6+at, want)
		stands(t, s, tasks(0), tasks(1))
	}
	mustStep(t, s, 0, 9, api.OK)
	stands(t, s, tasks(0), nil)
	mustStep(t, s, 0, 10, api.ErrNegative)
	mustStep(t, s, 0, 11, api.OK)
	stands(t, s, nil, nil)
}

func TestAddThatIsRefusedFreesNobody(t *testing.T) {
	for _, n := range tasks(-2, -3, -api.MaxCount, -api.MaxCount-1, math.MinInt, api.MaxCount, math.MaxInt) {
		want := api.ErrNegative
		if n > 0 || n < -api.MaxCount {
			want = api.ErrRange
		}
		s := sched.New([][]api.Op{{add(1, 1), add(1, n), add(1, -1)}, {wait(1)}})
		mustStep(t, s, 0, 0, api.OK)
		mustStep(t, s, 1, 0, api.OK)
		mustStep(t, s, 0, 1, want)
		stands(t, s, tasks(0), tasks(1))
		mustStep(t, s, 0, 2, api.OK)
		stands(t, s, nil, nil)
	}
}

func TestDoAgainWithinItsRun(t *testing.T) {
	s := sched.New([][]api.Op{{do(1), do(1), yield(), end(1), end(1), do(1), yield(), end(1), yield()}, {do(1), yield(), end(1)}})
	mustStep(t, s, 0, 0, api.OK)
	mustStep(t, s, 0, 1, api.ErrHeld) // it goes on behind that OpDo, and runs the once as before
	mustStep(t, s, 0, 2, api.OK)
	mustStep(t, s, 1, 0, api.OK)
	stands(t, s, tasks(0), tasks(1))
	mustStep(t, s, 0, 3, api.OK)
	stands(t, s, tasks(0), nil)
	mustStep(t, s, 0, 4, api.ErrArg) // there is nothing more to end
	mustStep(t, s, 0, 5, api.OK)
	mustStep(t, s, 0, 8, api.OK)
	stands(t, s, nil, nil)
}

func TestDoWithoutAnEnd(t *testing.T) {
	s := sched.New([][]api.Op{{do(1), yield()}, {do(1), yield(), yield()}, {yield(), do(2), end(2), do(1), do(2), end(2), yield()}})
	mustGo(t, s, 0, 0, 2)
	mustStep(t, s, 1, 0, api.OK)
	mustGo(t, s, 2, 0, 4)
	stands(t, s, nil, tasks(1, 2)) // for good
}

func TestDoWithoutAnEndPassedOver(t *testing.T) {
	s := sched.New([][]api.Op{{do(1), end(1)}, {do(1), yield(), yield()}, {do(1), do(2), end(2), yield()}, {do(1), do(2), end(1), do(3), yield()}, {do(1)}, {do(1), do(1), do(1), end(1), end(1)}})
	mustStep(t, s, 0, 0, api.OK)
	mustStep(t, s, 1, 0, api.OK)
	mustStep(t, s, 3, 0, api.OK)
	stands(t, s, tasks(0, 2, 4, 5), tasks(1, 3))
	mustStep(t, s, 0, 1, api.OK)
	stands(t, s, tasks(2, 4, 5), nil) // those that waited are at their end
	mustStep(t, s, 2, 0, api.OK)
	mustStep(t, s, 4, 0, api.OK)
	mustStep(t, s, 5, 0, api.OK)
	stands(t, s, nil, nil)
}

func TestPairsWithinOneAnother(t *testing.T) {
	ops := []api.Op{do(1), do(2), yield(), end(2), do(1), yield(), end(1), do(3), do(3), end(9), end(9), end(7), yield()}
	for _, whether := range []string{"waited", "at once"} {
		s := sched.New([][]api.Op{{do(1), end(1)}, ops})
		mustStep(t, s, 0, 0, api.OK)
		if whether == "waited" {
			mustStep(t, s, 1, 0, api.OK)
			stands(t, s, tasks(0), tasks(1))
			mustStep(t, s, 0, 1, api.OK)
		} else {
			mustStep(t, s, 0, 1, api.OK)
			mustStep(t, s, 1, 0, api.OK)
		}
		stands(t, s, tasks(1), nil)
		mustStep(t, s, 1, 12, api.OK) // an OpEnd belongs to an OpDo by its place, whatever its Obj
		stands(t, s, nil, nil)
	}
}

func TestOpsOfThosePassedOverAreNotDone(t *testing.T) {
	inner := []api.Op{do(1), lock(1), do(2), end(2), add(1, 1), wlock(1), odd(0), unlock(9), end(1), yield()}
	s := sched.New([][]api.Op{{do(1), end(1), yield()}, inner, {lock(1), wait(1), wlock(1), do(2), end(2)}})
	mustGo(t, s, 0, 0, 2)
	mustStep(t, s, 1, 0, api.OK)
	mustStep(t, s, 1, 9, api.OK)
	mustGo(t, s, 2, 0, 5)
	stands(t, s, tasks(0), nil)
}

func TestOncesWithinOneAnotherAreRun(t *testing.T) {
	s := sched.New([][]api.Op{{do(1), do(2), do(3), end(1), end(2), end(3), end(2), end(2), end(3), end(1), end(1)}})
	for at, want := range []api.Errno{0, 0, 0, api.ErrArg, api.ErrArg, 0, 0, api.ErrArg, api.ErrArg, 0, api.ErrArg} {
		mustStep(t, s, 0, at, want)
	}
	stands(t, s, nil, nil)
}

// A once that is passed over within the run of another one is not the last that the task runs.
func TestOncePassedOverWithinARun(t *testing.T) {
	s := sched.New([][]api.Op{{do(2), end(2)}, {do(1), do(2), yield(), end(2), end(2), end(1), end(1)}, {do(1), end(1)}})
	mustGo(t, s, 0, 0, 2)
	mustGo(t, s, 1, 0, 2)
	mustStep(t, s, 2, 0, api.OK)
	mustStep(t, s, 1, 4, api.ErrArg)
	stands(t, s, tasks(1), tasks(2))
	mustStep(t, s, 1, 5, api.OK)
	stands(t, s, tasks(1), nil)
	mustStep(t, s, 1, 6, api.ErrArg)
	stands(t, s, nil, nil)
}

func TestEndWithNoDo(t *testing.T) {
	s := sched.New([][]api.Op{{do(1), yield(), end(1)}, {end(1), end(1), end(2), do(1), end(1), end(1)}})
	mustStep(t, s, 0, 0, api.OK)
	for at := range 3 {
		mustStep(t, s, 1, at, api.ErrArg) // not of what another runs, either
	}
	mustStep(t, s, 1, 3, api.OK)
	stands(t, s, tasks(0), tasks(1))
	mustGo(t, s, 0, 1, 2)
	mustStep(t, s, 1, 5, api.ErrArg)
	stands(t, s, nil, nil)
}

func TestEndWithAnotherObj(t *testing.T) {
	for _, obj := range oddInts {
		for _, other := range oddInts {
			if obj == other {
				continue
			}
			s := sched.New([][]api.Op{{do(obj), end(other), do(other), end(obj), end(other), end(obj)}})
			for at, want := range []api.Errno{0, api.ErrArg, 0, api.ErrArg, 0, 0} {
				mustStep(t, s, 0, at, want)
			}
			stands(t, s, nil, nil)
		}
	}
}

// The first OpEnd behind an OpDo belongs to it, though it ends nothing where the task runs the once.
func TestEndWithAnotherObjPassedOver(t *testing.T) {
	ops := []api.Op{do(1), end(2), yield(), end(1)}
	s := sched.New([][]api.Op{ops, ops})
	mustStep(t, s, 0, 0, api.OK)
	mustStep(t, s, 0, 1, api.ErrArg)
	mustStep(t, s, 1, 0, api.OK)
	stands(t, s, tasks(0), tasks(1))
	mustGo(t, s, 0, 2, 2)
	stands(t, s, tasks(1), nil)
	mustStep(t, s, 1, 2, api.OK)
	mustStep(t, s, 1, 3, api.ErrArg)
	stands(t, s, nil, nil)
}

func TestOnceThatIsDoneByItsOwnTask(t *testing.T) {
	s := sched.New([][]api.Op{{do(1), end(1), do(1), yield(), end(1), do(1)}})
	mustGo(t, s, 0, 0, 3)
	stands(t, s, tasks(0), nil)
	mustStep(t, s, 0, 5, api.OK)
	stands(t, s, nil, nil)
}

// Whoever gets what it waits for is past it, without a step of its own.
func TestPastAsSoonAsItHasIt(t *testing.T) {
	takes := []api.Op{lock(1), wlock(1), rlock(1), add(1, 1), do(1)}
	gives := []api.Op{unlock(1), wunlock(1), runlock(1), add(1, -1), end(1)}
	asks := []api.Op{lock(1), rlock(1), wlock(1), wait(1), do(1)}
	for i := range takes {
		for _, more := range [][]api.Op{nil, {yield()}} {
			s := sched.New([][]api.Op{{takes[i], gives[i], yield()}, append([]api.Op{asks[i], end(5)}[:1+i/4], more...)})
			mustStep(t, s, 0, 0, api.OK)
			mustStep(t, s, 1, 0, api.OK)
			stands(t, s, tasks(0), tasks(1))
			mustStep(t, s, 0, 1, api.OK)
			if len(more) == 0 {
				stands(t, s, tasks(0), nil)
				mustNotStep(t, s, 1)
				continue
			}
			stands(t, s, tasks(0, 1), nil)
			mustStep(t, s, 1, 1+i/4, api.OK)
		}
	}
}

// One that got a mutex as its last operation holds it for good.
func TestHeldAtItsEnd(t *testing.T) {
	s := sched.New([][]api.Op{{lock(1), unlock(1)}, {lock(1)}, {lock(1)}})
	for task := range 3 {
		mustStep(t, s, task, 0, api.OK)
	}
	mustStep(t, s, 0, 1, api.OK)
	stands(t, s, nil, tasks(2))
}

// One that waited holds what it waited for, and may let it go.
func TestHeldByOneThatWaited(t *testing.T) {
	s := sched.New([][]api.Op{{lock(1), unlock(1), lock(1)}, {lock(1), lock(1), unlock(1), unlock(1)}})
	mustStep(t, s, 0, 0, api.OK)
	mustStep(t, s, 1, 0, api.OK)
	mustStep(t, s, 0, 1, api.OK)
	mustStep(t, s, 0, 2, api.OK)
	stands(t, s, tasks(1), tasks(0))
	mustStep(t, s, 1, 1, api.ErrHeld)
	mustStep(t, s, 1, 2, api.OK)
	stands(t, s, tasks(1), nil)
	mustStep(t, s, 1, 3, api.ErrNotHeld)
	stands(t, s, nil, nil)
}

func TestSchedsAreApart(t *testing.T) {
	ops := same(2, lock(1), unlock(1))
	a, b := sched.New(ops), sched.New(ops)
	mustStep(t, a, 0, 0, api.OK)
	mustStep(t, b, 1, 0, api.OK)
	stands(t, b, tasks(0, 1), nil)
	mustStep(t, a, 1, 0, api.OK)
	stands(t, a, tasks(0), tasks(1))
	stands(t, b, tasks(0, 1), nil)
}

func TestNil(t *testing.T) {
	var s *sched.Sched
	stands(t, s, nil, nil)
	for _, task := range oddInts {
		mustNotStep(t, s, task)
	}
	if !s.Ended() {
		t.Fatal("Ended on nil: false")
	}
}

func TestZeroValue(t *testing.T) {
	var s sched.Sched
	stands(t, &s, nil, nil)
	for _, task := range oddInts {
		mustNotStep(t, &s, task)
	}
}

// menu is operations on few objects, so that tasks meet.
var menu = []api.Op{
	lock(1), unlock(1), wlock(1), wunlock(1), rlock(1), runlock(1), add(1, 1), add(1, -1), wait(1), do(1), end(1), do(2), end(2), yield(), odd(0), {Kind: api.OpLock, Obj: 1, N: 2},
}

// explore takes every turn that there is, checking each state that it comes to by the turns so far.
func explore(t *testing.T, ops [][]api.Op, turns []int) {
	t.Helper()
	b := newBoth(t, ops)
	for _, task := range turns {
		b.step(task)
	}
	b.check()
	for _, task := range b.m.ready() {
		explore(t, ops, append(turns, task))
	}
}

func TestAllShortTasks(t *testing.T) {
	var pairs [][]api.Op
	for _, a := range menu {
		for _, b := range menu {
			pairs = append(pairs, []api.Op{a, b})
		}
	}
	for i, first := range pairs {
		for _, second := range pairs[:i+1] {
			explore(t, [][]api.Op{first, second}, nil)
		}
	}
}

// All tasks of five operations of onces, beside one that runs the first once.
func TestAllPairsOfOnces(t *testing.T) {
	few := []api.Op{do(1), do(2), end(1), end(2), yield()}
	n := len(few)
	for code := range n * n * n * n * n {
		var ops []api.Op
		for c := code; len(ops) < 5; c /= n {
			ops = append(ops, few[c%n])
		}
		for turns := range 3 { // how far the other one is, when that task begins
			b := newBoth(t, [][]api.Op{ops, {do(1), end(1)}})
			for range turns {
				b.step(1)
			}
			for range 6 {
				b.step(0)
				b.check()
			}
			b.step(1)
			b.step(1)
			b.check()
			for range 6 {
				b.step(0)
				b.check()
			}
		}
	}
}

// someOp gives an operation on one of a few objects, seldom a wrong one.
func someOp(r *rand.Rand, objects int) api.Op {
	op := menu[r.IntN(len(menu))]
	op.Obj = r.IntN(objects)
	if r.IntN(40) == 0 {
		op.N = oddInts[r.IntN(len(oddInts))]
	}
	if r.IntN(80) == 0 {
		op.Kind = oddInts[r.IntN(len(oddInts))]
	}
	return op
}

func someTasks(r *rand.Rand) [][]api.Op {
	ops := make([][]api.Op, r.IntN(9))
	objects := 1 + r.IntN(3)
	for i := range ops {
		for range r.IntN(16) {
			ops[i] = append(ops[i], someOp(r, objects))
		}
	}
	return ops
}

func TestRandomTasks(t *testing.T) {
	r := rand.New(rand.NewPCG(10, 1))
	for range 10000 {
		ops := someTasks(r)
		b := newBoth(t, ops)
		b.check()
		for !b.m.ended() {
			task := r.IntN(len(ops)+2) - 1
			b.step(task)
			b.check()
			if len(b.m.ready()) == 0 {
				break
			}
		}
	}
}

func TestManyTasksInTurn(t *testing.T) {
	const n = 100000
	s := sched.New(same(n, lock(1), unlock(1)))
	for task := n - 1; task >= 0; task-- {
		mustStep(t, s, task, 0, api.OK)
	}
	if got := s.Blocked(); len(got) != n-1 || got[0] != 0 || got[n-2] != n-2 {
		t.Fatalf("%d blocked", len(got))
	}
	for task := n - 1; task >= 0; task-- {
		if got := s.Ready(); !slices.Equal(got, tasks(task)) {
			t.Fatalf("Ready: %v, want %d", got, task)
		}
		mustStep(t, s, task, 1, api.OK)
	}
	stands(t, s, nil, nil)
}

// Each goes on in the same step, where all waited for one.
func TestManyTasksAtOnce(t *testing.T) {
	const n = 100000
	for _, both := range [][2]api.Op{{add(1, 1), add(1, -1)}, {do(1), end(1)}, {wlock(1), wunlock(1)}} {
		ask := map[int]api.Op{api.OpAdd: wait(1), api.OpDo: do(1), api.OpLock: rlock(1)}[both[0].Kind]
		ops := append(same(n, ask, end(1), yield()), both[:])
		s := sched.New(ops)
		mustStep(t, s, n, 0, api.OK)
		for task := range n {
			mustStep(t, s, (task*7+3)%n, 0, api.OK)
		}
		if len(s.Blocked()) != n || !slices.Equal(s.Ready(), tasks(n)) {
			t.Fatalf("%d blocked", len(s.Blocked()))
		}
		mustStep(t, s, n, 1, api.OK)
		ready := s.Ready()
		if len(s.Blocked()) != 0 || len(ready) != n || !slices.IsSorted(ready) || ready[0] != 0 || ready[n-1] != n-1 {
			t.Fatalf("%d ready", len(ready))
		}
	}
}

func TestManyObjects(t *testing.T) {
	const n = 50000
	var first, second []api.Op
	for i := range n {
		first = append(first, lock(i), wlock(i), add(i, 1), do(i))
		second = append(second, unlock(i), lock(-i-1), rlock(-i-1), wait(-i-1), do(-i-1), end(-i-1))
	}
	for i := range n {
		first = append(first, end(n-1-i))
	}
	s := sched.New([][]api.Op{first, second})
	mustGo(t, s, 0, 0, 5*n)
	for at := range 6 * n {
		want := api.OK
		if at%6 == 0 {
			want = api.ErrNotHeld
		}
		mustStep(t, s, 1, at, want)
	}
	stands(t, s, nil, nil)
}

// An OpDo finds the OpEnd that belongs to it, however many stand within.
func TestDeepPairs(t *testing.T) {
	const n = 200000
	var ops []api.Op
	for i := range n {
		ops = append(ops, do(i%7))
	}
	for i := range n {
		ops = append(ops, end(i%5))
	}
	s := sched.New([][]api.Op{{do(0), end(0)}, append(ops, yield())})
	mustGo(t, s, 0, 0, 2)
	mustStep(t, s, 1, 0, api.OK)
	mustStep(t, s, 1, 2*n, api.OK)
	stands(t, s, nil, nil)
}

// Promise 10.2.

func events(l ...int) []api.Event {
	var out []api.Event
	for i := 0; i+1 < len(l); i += 2 {
		out = append(out, api.Event{Task: l[i], At: l[i+1]})
	}
	return out
}

// ran asks for a run of which all operations go well.
func ran(t *testing.T, ops [][]api.Op, picks []int, wantEnded bool, want ...int) {
	t.Helper()
	got, ended := sched.Run(ops, picks)
	if !slices.Equal(got, events(want...)) || ended != wantEnded {
		t.Fatalf("Run(%v, %v): %v %v, want %v %v", ops, picks, got, ended, want, wantEnded)
	}
}

func TestRunsOfTheDocument(t *testing.T) {
	ran(t, same(2, lock(1), unlock(1)), []int{0, 1}, true, 0, 0, 1, 0, 0, 1, 1, 1)
	ran(t, [][]api.Op{{lock(1), lock(2)}, {lock(2), lock(1)}}, []int{0, 1}, false, 0, 0, 1, 0, 0, 1, 1, 1)
}

func TestRunOfNoTasks(t *testing.T) {
	for _, ops := range [][][]api.Op{nil, {}, {nil}, {{}, {}}} {
		for _, picks := range [][]int{nil, {}, {0}, {-1, math.MinInt, math.MaxInt}} {
			ran(t, ops, picks, true)
		}
	}
}

func TestRunWithoutPicks(t *testing.T) {
	for _, picks := range [][]int{nil, {}} {
		ran(t, same(3, yield(), yield()), picks, true, 0, 0, 0, 1, 1, 0, 1, 1, 2, 0, 2, 1)
		ran(t, [][]api.Op{{}, {add(1, 1), wait(1), yield()}, {yield(), add(1, -1), yield()}}, picks, true, 1, 0, 1, 1, 2, 0, 2, 1, 1, 2, 2, 2)
	}
}

func TestRunWithFewerPicks(t *testing.T) {
	ran(t, same(3, yield(), yield()), []int{2}, true, 2, 0, 0, 0, 0, 1, 1, 0, 1, 1, 2, 1)
	ran(t, same(3, yield(), yield()), []int{2, 2, 1}, true, 2, 0, 2, 1, 1, 0, 0, 0, 0, 1, 1, 1)
}

func TestRunWithMorePicks(t *testing.T) {
	ran(t, same(2, yield(), yield()), []int{1, 1, 1, 1, 1, 1, 1}, true, 1, 0, 1, 1, 0, 0, 0, 1)
	ran(t, [][]api.Op{{lock(1), lock(2)}, {lock(2), lock(1)}}, []int{0, 1, 1, 0, 0, 0, 0}, false, 0, 0, 1, 0, 1, 1, 0, 1)
	ran(t, same(2, yield(), yield()), []int{1, 1, 1, 1}, true, 1, 0, 1, 1, 0, 0, 0, 1) // just as many
}

func TestRunCountsAmongTheReady(t *testing.T) {
	// 0 is at its end from the start, 1 blocked behind 2's lock: of 2, 3, 4 the place 1 is 3.
	ops := [][]api.Op{{}, {lock(1)}, {lock(1), yield(), unlock(1)}, {yield()}, {yield()}}
	ran(t, ops, []int{1, 0, 1, 1, 0, 0}, true, 2, 0, 1, 0, 3, 0, 4, 0, 2, 1, 2, 2)
}

func TestRunFromZeroOn(t *testing.T) {
	picked := func(n, pick, want int) {
		t.Helper()
		got, ended := sched.Run(same(n, yield()), []int{pick})
		if len(got) != n || got[0] != (api.Event{Task: want}) || !ended {
			t.Fatalf("%d tasks, pick %d: %v %v, want %d", n, pick, got, ended, want)
		}
	}
	for n := 1; n < 40; n++ {
		for pick := range 3 * n {
			picked(n, pick, pick%n)
			picked(n, -1-pick, n-1-pick%n)
		}
		picked(n, -n, 0)
		picked(n, math.MaxInt, int(uint64(math.MaxInt)%uint64(n)))
		picked(n, math.MaxInt-1, int(uint64(math.MaxInt-1)%uint64(n)))
		back := int((uint64(math.MaxInt) + 1) % uint64(n)) // of the least int, without its sign
		picked(n, math.MinInt, (n-back)%n)
		picked(n, math.MinInt+1, (n-back+1)%n)
	}
}

func TestRunTenThousandSteps(t *testing.T) {
	long := func(n int) []api.Op { return slices.Repeat([]api.Op{yield()}, n) }
	for _, picks := range [][]int{nil, {1, 2, 3}, slices.Repeat([]int{-1}, 9999), slices.Repeat([]int{1}, 10000), slices.Repeat([]int{3, -2}, 10000)} {
		for _, ops := range [][][]api.Op{{long(10000)}, {long(5000), long(5000)}, {long(1), long(9998), nil, long(1)}, same(10000, yield())} {
			got, ended := sched.Run(ops, picks)
			if len(got) != 10000 || !ended {
				t.Fatalf("just as many: %d events, %v", len(got), ended)
			}
			mustRun(t, ops[:min(len(ops), 10)], picks)
			for _, more := range [][]api.Op{{yield()}, {lock(1)}, long(10000)} {
				got, ended := sched.Run(append(slices.Clone(ops), more), picks)
				if len(got) != 10000 || ended {
					t.Fatalf("more: %d events, %v", len(got), ended)
				}
			}
			got, ended = sched.Run(append(slices.Clone(ops), nil), picks)
			if len(got) != 10000 || !ended {
				t.Fatalf("with one that has none: %d events, %v", len(got), ended)
			}
		}
		got, ended := sched.Run([][]api.Op{long(9999)}, picks)
		if len(got) != 9999 || !ended {
			t.Fatalf("one fewer: %d events, %v", len(got), ended)
		}
	}
}

// The last of the 10000 steps may free others: one is at its end by that, another is not.
func TestRunEndsByItsLastStep(t *testing.T) {
	ops := append([]api.Op{add(1, 1)}, slices.Repeat([]api.Op{yield()}, 9997)...)
	ops = append(ops, add(1, -1))
	got, ended := sched.Run([][]api.Op{ops, {wait(1)}}, []int{0, 1})
	if len(got) != 10000 || !ended {
		t.Fatalf("%d events, %v", len(got), ended)
	}
	got, ended = sched.Run([][]api.Op{ops, {wait(1), yield()}}, []int{0, 1})
	if len(got) != 10000 || ended {
		t.Fatalf("%d events, %v", len(got), ended)
	}
}

func TestRunTellsErrors(t *testing.T) {
	got, ended := sched.Run([][]api.Op{{odd(0), unlock(1), lock(1), lock(1), end(1), add(1, -1), add(1, math.MaxInt), {Kind: api.OpLock, N: 2}}}, nil)
	want := []api.Errno{api.ErrArg, api.ErrNotHeld, 0, api.ErrHeld, api.ErrArg, api.ErrNegative, api.ErrRange, api.ErrArg}
	if len(got) != len(want) || !ended {
		t.Fatalf("%v %v", got, ended)
	}
	for at, err := range want {
		if got[at] != (api.Event{At: at, Err: err}) {
			t.Errorf("%v, want %d", got[at], err)
		}
	}
}

func TestRunBlockedForGood(t *testing.T) {
	ran(t, [][]api.Op{{lock(1)}, {lock(1), yield()}}, nil, false, 0, 0, 1, 0)
	ran(t, [][]api.Op{{add(1, 1)}, {wait(1)}, {yield()}}, nil, false, 0, 0, 1, 0, 2, 0)
	ran(t, [][]api.Op{{do(1)}, {do(1), end(1)}}, nil, false, 0, 0, 1, 0)
	ran(t, [][]api.Op{{rlock(1)}, {wlock(1)}, {rlock(1)}}, nil, false, 0, 0, 1, 0, 2, 0)
}

func TestRandomRuns(t *testing.T) {
	r := rand.New(rand.NewPCG(10, 2))
	for range 20000 {
		picks := make([]int, r.IntN(100))
		for i := range picks {
			switch r.IntN(4) {
			case 0:
				picks[i] = oddInts[r.IntN(len(oddInts))]
			case 1:
				picks[i] = int(r.Uint64())
			default:
				picks[i] = r.IntN(20) - 10
			}
		}
		mustRun(t, someTasks(r), picks)
	}
}

// Which one a pick takes, where the tasks are many and end in no order.
func TestRunOfManyTasks(t *testing.T) {
	r := rand.New(rand.NewPCG(10, 3))
	for _, n := range tasks(63, 64, 65, 127, 128, 129, 1000) {
		ops := make([][]api.Op, n)
		for i := range ops {
			for range r.IntN(4) {
				ops[i] = append(ops[i], someOp(r, 20))
			}
		}
		picks := make([]int, 3*n)
		for i := range picks {
			picks[i] = int(r.Uint64())
		}
		mustRun(t, ops, picks)
	}
}

func TestRunOfVeryManyTasks(t *testing.T) {
	const n = 1000000
	ops := make([][]api.Op, n)
	row := []api.Op{yield()}
	for i := range ops {
		ops[i] = row
	}
	picks := make([]int, 20000)
	for i := range picks {
		picks[i] = -1 - i%2*(n-1)
	}
	got, ended := sched.Run(ops, picks)
	if len(got) != 10000 || ended || got[0].Task != n-1 {
		t.Fatalf("%d events, %v", len(got), ended)
	}
}

// Memory: R4.

func deepCopy(ops [][]api.Op) [][]api.Op {
	var l [][]api.Op
	for _, row := range ops {
		l = append(l, slices.Clone(row))
	}
	return l
}

func sameOps(a, b [][]api.Op) bool { return slices.EqualFunc(a, b, slices.Equal[[]api.Op]) }

// spoil writes over a list, behind its end too.
func spoil(l []int) {
	l = l[:cap(l)]
	for i := range l {
		l[i] = -77
	}
}

func TestGivenIsNotChanged(t *testing.T) {
	r := rand.New(rand.NewPCG(10, 4))
	for range 500 {
		var ops [][]api.Op
		for range 5 { // each row with more behind its end
			row := make([]api.Op, 12)
			for i := range row {
				row[i] = someOp(r, 2)
			}
			ops = append(ops, row)
		}
		whole := deepCopy(ops)
		short := make([][]api.Op, 0, len(ops))
		for _, row := range ops[:4] {
			short = append(short, row[:8])
		}
		picks := []int{5, -1, 3, math.MinInt, 9, 9, 9}
		sched.Run(short, picks[:5])
		s := sched.New(short)
		for len(s.Ready()) > 0 {
			s.Step(s.Ready()[r.IntN(len(s.Ready()))])
		}
		if !sameOps(ops, whole) || !slices.Equal(picks, []int{5, -1, 3, math.MinInt, 9, 9, 9}) || len(short) != 4 {
			t.Fatal("what was given is another")
		}
	}
}

func TestGivenIsNotLookedAtAgain(t *testing.T) {
	r := rand.New(rand.NewPCG(10, 5))
	for range 500 {
		ops := someTasks(r)
		b := both{t, sched.New(ops), newModel(deepCopy(ops))}
		for i, row := range ops {
			for j := range row {
				row[j] = api.Op{Kind: 77, Obj: 77, N: 77}
			}
			ops[i] = nil
		}
		b.check()
		for len(b.m.ready()) > 0 {
			b.step(b.m.ready()[r.IntN(len(b.m.ready()))])
			b.check()
		}
	}
}

// Two tasks may be given as one row, or as parts of one.
func TestRowsThatShare(t *testing.T) {
	row := []api.Op{lock(1), yield(), unlock(1)}
	mustRun(t, [][]api.Op{row, row, row[:1], row[1:]}, []int{0, 1, 2, 3, 0, 1, 2, 3})
}

func TestListsAreNew(t *testing.T) {
	s := sched.New(append(same(5, lock(1), unlock(1)), []api.Op{yield()}))
	for task := range 4 {
		mustStep(t, s, task, 0, api.OK)
	}
	a, b, c, d := s.Ready(), s.Ready(), s.Blocked(), s.Blocked()
	spoil(a)
	spoil(c)
	if !slices.Equal(b, tasks(0, 4, 5)) || !slices.Equal(d, tasks(1, 2, 3)) {
		t.Fatalf("%v %v", b, d)
	}
	stands(t, s, tasks(0, 4, 5), tasks(1, 2, 3))
	spoil(b)
	spoil(d)
	stands(t, s, tasks(0, 4, 5), tasks(1, 2, 3))
	kept := s.Ready()
	mustStep(t, s, 0, 1, api.OK)
	mustStep(t, s, 5, 0, api.OK)
	if !slices.Equal(kept, tasks(0, 4, 5)) {
		t.Fatalf("%v", kept)
	}
	stands(t, s, tasks(1, 4), tasks(2, 3))
}

func TestRunsAreNew(t *testing.T) {
	ops, picks := same(3, lock(1), yield(), unlock(1)), []int{2, 1, 0}
	a, _ := sched.Run(ops, picks)
	b, _ := sched.Run(ops, picks)
	for i := range a {
		a[i] = api.Event{Task: 77}
	}
	if want, _ := newModel(ops).run(picks); !slices.Equal(b, want) {
		t.Fatalf("%v, want %v", b, want)
	}
}

// Promise 10.3.

// allPicks gives every row of that many picks below n.
func allPicks(n, length int) [][]int {
	rows := [][]int{nil}
	for range length {
		var longer [][]int
		for _, row := range rows {
			for pick := range n {
				longer = append(longer, append(slices.Clone(row), pick))
			}
		}
		rows = longer
	}
	return rows
}

// Each stands within while its OpYield was done and what comes behind was not.
func TestNoMutexIsHeldByTwo(t *testing.T) {
	ops := same(3, lock(1), yield(), unlock(1))
	for _, picks := range allPicks(3, 8) {
		got, ended := sched.Run(ops, picks)
		if len(got) != 9 || !ended {
			t.Fatalf("%v: %v %v", picks, got, ended)
		}
		within := 0
		for _, e := range got {
			switch e.At {
			case 1:
				within++
			case 2:
				within--
			}
			if within > 1 {
				t.Fatalf("%v: %v", picks, got)
			}
		}
	}
}

func TestNoReaderBesideAWriter(t *testing.T) {
	reader, writer := []api.Op{rlock(1), yield(), runlock(1)}, []api.Op{wlock(1), yield(), wunlock(1)}
	ops := [][]api.Op{reader, writer, reader, writer}
	together := false
	for _, picks := range allPicks(4, 7) {
		got, ended := sched.Run(ops, picks)
		if len(got) != 12 || !ended {
			t.Fatalf("%v: %v %v", picks, got, ended)
		}
		var within [2]int // readers, writers
		for _, e := range got {
			switch e.At {
			case 1:
				within[e.Task%2]++
			case 2:
				within[e.Task%2]--
			}
			if within[1] > 1 || within[1] == 1 && within[0] > 0 {
				t.Fatalf("%v: %v", picks, got)
			}
			together = together || within[0] == 2
		}
	}
	if !together {
		t.Fatal("two readers never held it together")
	}
}

// The operations within are done once, and nobody is behind them ahead of that.
func TestOperationsOfAOnceAreDoneOnce(t *testing.T) {
	ops := same(4, do(1), yield(), yield(), end(1), yield())
	for _, picks := range allPicks(4, 7) {
		got, ended := sched.Run(ops, picks)
		var done [5]int
		for _, e := range got {
			if e.Err != api.OK || e.At == 4 && done[3] != 1 {
				t.Fatalf("%v: %v", picks, got)
			}
			done[e.At]++
		}
		if done != [5]int{4, 1, 1, 1, 4} || !ended {
			t.Fatalf("%v: %v %v", picks, got, ended)
		}
	}
}

// Whatever the tasks: who is past its lock and has not let it go is alone with it.
func TestWhoHoldsIsAlone(t *testing.T) {
	r := rand.New(rand.NewPCG(10, 6))
	for range 5000 {
		ops := someTasks(r)
		s := sched.New(ops)
		wanted, held := map[int]claim{}, map[int][]claim{} // an rwlock's number: who holds it; a task: what it waits for
		objects := map[int]int{}
		settle := func() {
			blocked := s.Blocked()
			for task, c := range wanted {
				if !slices.Contains(blocked, task) {
					held[objects[task]] = append(held[objects[task]], c)
					delete(wanted, task)
				}
			}
		}
		for len(s.Ready()) > 0 {
			ready := s.Ready()
			e, _ := s.Step(ready[r.IntN(len(ready))])
			op := ops[e.Task][e.At]
			reader := op.Kind == api.OpRLock || op.Kind == api.OpRUnlock
			switch {
			case e.Err != api.OK || !reader && op.N != 1:
			case op.Kind == api.OpUnlock || op.Kind == api.OpRUnlock:
				held[op.Obj] = slices.DeleteFunc(held[op.Obj], isOf(e.Task))
			case op.Kind == api.OpLock || op.Kind == api.OpRLock:
				wanted[e.Task], objects[e.Task] = claim{e.Task, reader}, op.Obj
			}
			settle()
			for obj, l := range held {
				if len(l) > 1 && slices.ContainsFunc(l, isWriter) {
					t.Fatalf("%v: rwlock %d is held by %v", ops, obj, l)
				}
			}
		}
	}
}

// FuzzDeeds reads tasks and turns from bytes, and does them to a scheduler and its model.
func FuzzDeeds(f *testing.F) {
	f.Add(uint8(2), []byte{0, 0, 1, 1}, []byte{0, 1, 0, 1})
	f.Add(uint8(3), []byte{9, 9, 9, 13, 13, 13, 10, 10, 10}, []byte{0, 1, 2, 0, 0, 1, 2})
	f.Add(uint8(4), []byte{6, 8, 8, 8, 7}, []byte{0, 1, 2, 3, 0})
	f.Fuzz(func(t *testing.T, n uint8, codes, turns []byte) {
		count := int(n%8) + 1
		ops := make([][]api.Op, count)
		for i, code := range codes[:min(len(codes), 400)] {
			ops[i%count] = append(ops[i%count], menu[int(code)%len(menu)])
		}
		b := newBoth(t, ops)
		picks := make([]int, len(turns))
		for i, turn := range turns[:min(len(turns), 400)] {
			b.step(int(turn)%(count+2) - 1)
			b.check()
			picks[i] = int(int8(turn))
		}
		mustRun(t, ops, picks)
	})
}

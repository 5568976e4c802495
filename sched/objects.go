package sched

import (
	"latchkey/api"
	"latchkey/lgroup"
	"latchkey/lmutex"
)

// object is what tasks ask for and wait for. An operation comes only to an object of the kind that it names.
type object interface {
	// ask does an operation that may wait.
	ask(task int, op api.Op) (answer, api.Errno)
	// free does an operation that others may have waited for, and gives those that go on by it, in order.
	free(task int, op api.Op) ([]int, api.Errno)
}

// answer is what comes of asking.
type answer int

const (
	refused answer = iota // there is an error
	has                   // the task has what it asked for
	runs                  // it has a once, which it runs from now on
	waits                 // it waits
	misses                // it asked for a once that is done
)

// kind is a kind of objects.
type kind int

const (
	noKind kind = iota
	mutexes
	rwlocks
	groups
	onces
)

// name is an object's own among all: its number is so only among those of its kind.
type name struct {
	kind kind
	obj  int
}

// nameOf gives the name of the object that the operation is done to; of noKind, if there can be none.
func nameOf(op api.Op) name {
	switch op.Kind {
	case api.OpLock, api.OpUnlock:
		return name{lockKind(op.N), op.Obj}
	case api.OpRLock, api.OpRUnlock:
		return name{rwlocks, op.Obj}
	case api.OpAdd, api.OpWait:
		return name{groups, op.Obj}
	case api.OpDo, api.OpEnd:
		return name{onces, op.Obj}
	}
	return name{noKind, op.Obj}
}

// lockKind gives the kind that the N of an OpLock or an OpUnlock stands for.
func lockKind(n int) kind {
	switch n {
	case 0:
		return mutexes
	case 1:
		return rwlocks
	}
	return noKind
}

// newObject gives an object of that kind to which nothing was done; nil of noKind.
func newObject(k kind) object {
	switch k {
	case mutexes:
		return mutex{lmutex.New()}
	case rwlocks:
		return rwlock{lmutex.NewRW()}
	case groups:
		return group{lgroup.New()}
	case onces:
		return once{lgroup.NewOnce()}
	}
	return nil
}

// hasOrWaits gives the answer of an object that tells by a bool whether the task has it.
func hasOrWaits(got bool, err api.Errno) (answer, api.Errno) {
	switch {
	case err != api.OK:
		return refused, err
	case got:
		return has, api.OK
	}
	return waits, api.OK
}

type mutex struct{ m *lmutex.Mutex }

func (x mutex) ask(task int, _ api.Op) (answer, api.Errno) { return hasOrWaits(x.m.Lock(task)) }

func (x mutex) free(task int, _ api.Op) ([]int, api.Errno) {
	next, err := x.m.Unlock(task)
	if err != api.OK || next < 0 {
		return nil, err
	}
	return []int{next}, api.OK
}

type rwlock struct{ m *lmutex.RW }

func (x rwlock) ask(task int, op api.Op) (answer, api.Errno) {
	return hasOrWaits(x.m.Lock(task, op.Kind == api.OpRLock))
}

func (x rwlock) free(task int, op api.Op) ([]int, api.Errno) {
	return x.m.Unlock(task, op.Kind == api.OpRUnlock)
}

type group struct{ g *lgroup.Group }

func (x group) ask(task int, _ api.Op) (answer, api.Errno) { return hasOrWaits(x.g.Wait(task)) }

func (x group) free(_ int, op api.Op) ([]int, api.Errno) { return x.g.Add(op.N) }

type once struct{ o *lgroup.Once }

func (x once) ask(task int, _ api.Op) (answer, api.Errno) {
	run, wait, err := x.o.Do(task)
	switch {
	case err != api.OK:
		return refused, err
	case run:
		return runs, api.OK
	case wait:
		return waits, api.OK
	}
	return misses, api.OK
}

func (x once) free(task int, _ api.Op) ([]int, api.Errno) { return x.o.Done(task) }

package locks

import (
	"maps"
	"slices"

	"latchkey/api"
)

// wait is what a session asks for, and stands in the queue with.
type wait struct {
	session, seq int
	reader       bool
}

// reply gives the answer OK.
func (w wait) reply() api.Reply { return api.Reply{Session: w.session, Seq: w.seq} }

// refused gives the answer that tells err.
func (w wait) refused(err api.Errno) api.Reply {
	r := w.reply()
	r.Err = err
	return r
}

// place is one in the queue, between its neighbours.
type place struct {
	wait
	ahead, behind *place
}

// lock is held by readers, or by one writer, while others wait.
type lock struct {
	holders map[int]struct{}
	writer  bool // whether it is a writer that holds it, if anybody does
	places  map[int]*place
	ends    place // ahead of the queue's front and behind its back: so each place has two neighbours, and one that goes leaves no gap
}

// newLock gives a lock that nobody holds.
func newLock() *lock {
	x := &lock{holders: map[int]struct{}{}, places: map[int]*place{}}
	x.ends.ahead, x.ends.behind = &x.ends, &x.ends
	return x
}

// held tells whether anybody holds the lock.
func (x *lock) held() bool { return len(x.holders) > 0 }

// holds tells whether the session holds the lock, in whatever way.
func (x *lock) holds(session int) bool {
	_, found := x.holders[session]
	return found
}

// hasRoom tells whether those that hold the lock let one more hold it.
func (x *lock) hasRoom(reader bool) bool { return !x.held() || reader && !x.writer }

// hold makes w's session one that holds the lock; there must be room for it.
func (x *lock) hold(w wait) {
	x.holders[w.session] = struct{}{}
	x.writer = !w.reader
}

// holding gives the sessions that hold the lock, rising.
func (x *lock) holding() []int { return slices.Sorted(maps.Keys(x.holders)) }

// drop takes a session out of those that hold the lock and of the queue.
func (x *lock) drop(session int) {
	delete(x.holders, session)
	if x.waits(session) {
		x.remove(session)
	}
}

// anybody tells whether anybody waits.
func (x *lock) anybody() bool { return len(x.places) > 0 }

// waits tells whether the session waits.
func (x *lock) waits(session int) bool {
	_, found := x.places[session]
	return found
}

// first gives the one at the queue's front; there must be one.
func (x *lock) first() wait { return x.ends.behind.wait }

// join puts w behind all others; its session must not wait already.
func (x *lock) join(w wait) {
	p := &place{wait: w, ahead: x.ends.ahead, behind: &x.ends}
	p.ahead.behind, p.behind.ahead = p, p
	x.places[w.session] = p
}

// leave takes the one at the queue's front out, and gives it; there must be one.
func (x *lock) leave() wait {
	w := x.first()
	x.remove(w.session)
	return w
}

// remove takes a session that waits out of the queue.
func (x *lock) remove(session int) {
	p := x.places[session]
	p.ahead.behind, p.behind.ahead = p.behind, p.ahead
	delete(x.places, session)
}

// waiting goes over those that wait, from the queue's front on.
func (x *lock) waiting(yield func(wait) bool) {
	for p := x.ends.behind; p != &x.ends; p = p.behind {
		if !yield(p.wait) {
			return
		}
	}
}

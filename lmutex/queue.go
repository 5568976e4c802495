package lmutex

import "latchkey/api"

// queue holds who waits for a lock, in the order of asking; its zero value has nobody.
type queue struct {
	row   []api.Wait
	tasks map[int]struct{} // those of the row, so that one that asks again is found however long the row is
}

// waits tells whether the task waits.
func (q *queue) waits(task int) bool {
	_, found := q.tasks[task]
	return found
}

// anybody tells whether somebody waits.
func (q *queue) anybody() bool { return len(q.row) > 0 }

// join puts a task that does not wait yet behind all others.
func (q *queue) join(task int, reader bool) {
	if q.tasks == nil {
		q.tasks = map[int]struct{}{}
	}
	q.tasks[task] = struct{}{}
	q.row = append(q.row, api.Wait{Task: task, Reader: reader, Blocked: true})
}

// first gives the one that waits longest; there must be one.
func (q *queue) first() api.Wait { return q.row[0] }

// leave takes the first one out; there must be one.
func (q *queue) leave() api.Wait {
	first := q.first()
	q.row = q.row[1:]
	delete(q.tasks, first.Task)
	return first
}

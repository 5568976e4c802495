package lgroup

import "slices"

// queue holds what waits, in the order of asking, each once; its zero value has none.
type queue[T comparable] struct {
	row []T
	in  map[T]struct{} // those of the row, so that one that asks again is found however long the row is
}

// has tells whether x waits.
func (q *queue[T]) has(x T) bool {
	_, found := q.in[x]
	return found
}

// join puts an x that does not wait yet behind all others.
func (q *queue[T]) join(x T) {
	if q.in == nil {
		q.in = map[T]struct{}{}
	}
	q.in[x] = struct{}{}
	q.row = append(q.row, x)
}

// all gives those that wait.
func (q *queue[T]) all() []T { return slices.Clone(q.row) }

// leave takes out all that wait, and gives them: the row is theirs from then on, as a new one stands in its place.
func (q *queue[T]) leave() []T {
	row := q.row
	*q = queue[T]{}
	return row
}

package proposer

import (
	"iter"
	"slices"
	"sort"
)

// row is all slots from the first to the last one; it is never empty.
type row struct{ first, last int }

// slots goes over the slots of a row. (The last one may be the greatest int: nothing is counted behind it.)
func (r row) slots() iter.Seq[int] {
	return func(yield func(int) bool) {
		for slot := r.first; yield(slot) && slot < r.last; slot++ {
		}
	}
}

// rows rise, and have no slot in common.
type rows []row

// slots goes over the slots of all rows.
func (l rows) slots() iter.Seq[int] {
	return func(yield func(int) bool) {
		for _, r := range l {
			for slot := range r.slots() {
				if !yield(slot) {
					return
				}
			}
		}
	}
}

// has tells whether a slot is in one of the rows.
func (l rows) has(slot int) bool {
	at := l.find(slot)
	return at < len(l) && l[at].first <= slot
}

// with gives the rows with the slot behind all others.
func (l rows) with(slot int) rows {
	if end := len(l) - 1; end >= 0 && l[end].last == slot-1 {
		l[end].last = slot
		return l
	}
	return append(l, row{slot, slot})
}

// without gives the rows without a slot that is in one of them.
func (l rows) without(slot int) rows {
	at := l.find(slot)
	whole := l[at]
	var left rows
	if whole.first < slot {
		left = append(left, row{whole.first, slot - 1})
	}
	if slot < whole.last {
		left = append(left, row{slot + 1, whole.last})
	}
	return slices.Replace(l, at, at+1, left...)
}

// find gives the place of the first row that does not end below slot.
func (l rows) find(slot int) int {
	return sort.Search(len(l), func(at int) bool { return l[at].last >= slot })
}

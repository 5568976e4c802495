package sched

// crowd is a set of numbers from 0 on, below some n. It finds the number at a place without going over all: the steps of a run would be slow otherwise, if the tasks are many. Its zero value is for none.
type crowd struct {
	counts []int // a tree: the count at i is those at 2i and at 2i + 1 together; the second half are the numbers' own, 1 or 0
}

// newCrowd gives an empty crowd for the numbers below n.
func newCrowd(n int) crowd {
	width := 1
	for width < n {
		width *= 2
	}
	return crowd{make([]int, 2*width)}
}

// width gives how many numbers the tree has place for, which is also where they begin.
func (c crowd) width() int { return len(c.counts) / 2 }

// size gives how many numbers the crowd has.
func (c crowd) size() int {
	if len(c.counts) == 0 {
		return 0
	}
	return c.counts[1]
}

// has tells whether x, any int, is in the crowd.
func (c crowd) has(x int) bool {
	return x >= 0 && x < c.width() && c.counts[c.width()+x] > 0
}

// join puts in an x that is not there yet.
func (c crowd) join(x int) { c.change(x, 1) }

// leave takes out an x that is there.
func (c crowd) leave(x int) { c.change(x, -1) }

// change counts x, and all that it is a part of, anew.
func (c crowd) change(x, by int) {
	for i := c.width() + x; i > 0; i /= 2 {
		c.counts[i] += by
	}
}

// at gives the number at that place, from 0 on and below the size, among the rising ones.
func (c crowd) at(place int) int {
	i := 1
	for i < c.width() {
		i *= 2
		if place >= c.counts[i] {
			place -= c.counts[i]
			i++
		}
	}
	return i - c.width()
}

// all gives the numbers, rising.
func (c crowd) all() []int {
	if c.size() == 0 {
		return nil
	}
	return c.gather(make([]int, 0, c.size()), 1)
}

// gather puts the numbers of the tree's part at i behind those.
func (c crowd) gather(numbers []int, i int) []int {
	switch {
	case c.counts[i] == 0:
		return numbers
	case i >= c.width():
		return append(numbers, i-c.width())
	}
	return c.gather(c.gather(numbers, 2*i), 2*i+1)
}

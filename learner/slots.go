package learner

// slots are kept in the order of package heap: the least one is the first.
type slots []int

// Len is for package heap.
func (s slots) Len() int { return len(s) }

// Less is for package heap.
func (s slots) Less(i, j int) bool { return s[i] < s[j] }

// Swap is for package heap.
func (s slots) Swap(i, j int) { s[i], s[j] = s[j], s[i] }

// Push is for package heap.
func (s *slots) Push(slot any) { *s = append(*s, slot.(int)) }

// Pop is for package heap.
func (s *slots) Pop() any {
	end := len(*s) - 1
	slot := (*s)[end]
	*s = (*s)[:end]
	return slot
}

package way

// spot is a place that is reached, and how.
type spot struct {
	place complex128
	far   int  // drops and adds up to it
	turn  int  // of two that are as far, the way to the one with the lesser turn is the better one
	kind  byte // of the step that led to it
}

// spots is a heap (container/heap), the nearest first.
type spots []spot

func (s spots) Len() int { return len(s) }

func (s spots) Less(i, j int) bool {
	if s[i].far != s[j].far {
		return s[i].far < s[j].far
	}
	return s[i].turn < s[j].turn
}

func (s spots) Swap(i, j int) { s[i], s[j] = s[j], s[i] }

// Push is for container/heap alone.
func (s *spots) Push(x any) { *s = append(*s, x.(spot)) }

// Pop is for container/heap alone.
func (s *spots) Pop() any {
	last := len(*s) - 1
	x := (*s)[last]
	*s = (*s)[:last]
	return x
}

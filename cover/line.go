package cover

// Who waits in the line is a stop, with the highest of its numbers, and all of them together.
type waiting struct{ highest, sum, stop int }

// A line is in the order of a heap: first comes whose highest number is the lowest. What is low all over bars much of
// what else would come.
type line []waiting

func (l line) Len() int { return len(l) }

func (l line) Less(i, j int) bool {
	if l[i].highest != l[j].highest {
		return l[i].highest < l[j].highest
	}
	return l[i].sum < l[j].sum
}

func (l line) Swap(i, j int) { l[i], l[j] = l[j], l[i] }

func (l *line) Push(x any) { *l = append(*l, x.(waiting)) }

func (l *line) Pop() any {
	end := len(*l) - 1
	x := (*l)[end]
	*l = (*l)[:end]
	return x
}

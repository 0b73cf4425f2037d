package cover

import "evermore/api"

// Piles have a number for each heap, 0 for those that are not there. They are what there is in the heaps, or what the
// heaps lack: the same numbers below 0. So those who look for little and those who look for much both look for what is
// lower.
type piles [api.MaxHeaps]int

func heaped(row []int) piles {
	var x piles
	copy(x[:], row)
	return x
}

func lacks(row []int) piles { return heaped(row).turned() }

func (x piles) turned() piles {
	for i := range x {
		x[i] = -x[i]
	}
	return x
}

// above tells whether x is y, or above it: no number is below that of y.
func (x piles) above(y piles) bool {
	for i := range x {
		if x[i] < y[i] {
			return false
		}
	}
	return true
}

func (x piles) sum() int {
	s := 0
	for _, y := range x {
		s += y
	}
	return s
}

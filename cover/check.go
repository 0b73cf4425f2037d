package cover

import "evermore/api"

// Limits of this chapter alone.
const (
	maxSteps = 8
	maxMoved = 2  // things that a step takes from a heap, or puts there
	maxThere = 10 // things that a heap of a state has
)

func shaped(rows [][]int, places int) bool {
	for _, row := range rows {
		if len(row) != places {
			return false
		}
	}
	return true
}

// within tells whether all numbers are from 0 to most.
func within(rows [][]int, most int) bool {
	for _, row := range rows {
		for _, x := range row {
			if x < 0 || x > most {
				return false
			}
		}
	}
	return true
}

// checkAll tells what is wrong with heaps, then with states, one after the other.
func checkAll(n api.Heaps, states ...[]int) api.Errno {
	if e := Check(n); e != api.OK {
		return e
	}
	for _, s := range states {
		if len(s) != n.Places {
			return api.ErrShape
		}
		if !within([][]int{s}, maxThere) {
			return api.ErrRange
		}
	}
	return api.OK
}

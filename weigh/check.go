package weigh

import "evermore/api"

// How large, in size, the numbers of what is multiplied may be: so those of what comes of it are within MaxWeight.
const maxFactor = 3

func shaped(a api.Weigh) bool {
	n := len(a.First)
	if len(a.Last) != n || len(a.Step) != a.Letters {
		return false
	}
	for _, table := range a.Step {
		if len(table) != n {
			return false
		}
		for _, row := range table {
			if len(row) != n {
				return false
			}
		}
	}
	return true
}

// within tells whether no number is above most in size.
func within(a api.Weigh, most int) bool {
	if !allWithin(a.First, most) || !allWithin(a.Last, most) {
		return false
	}
	for _, table := range a.Step {
		for _, row := range table {
			if !allWithin(row, most) {
				return false
			}
		}
	}
	return true
}

func allWithin(row []int, most int) bool {
	for _, x := range row {
		if x < -most || x > most {
			return false
		}
	}
	return true
}

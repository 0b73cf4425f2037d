package det

import "evermore/api"

// bySets goes by all steps at once: a state is the set, as bits, of those that some steps lead to by one word
// (Rabin, Scott).
func bySets(a api.Auto) api.Det {
	to := make([][]int, a.States)
	for s := range to {
		to[s] = make([]int, a.Letters)
	}
	for _, x := range a.Steps {
		to[x.From][x.Letter] |= 1 << x.To
	}
	next := func(set, l int) int {
		out := 0
		for s, row := range to {
			if set>>s&1 == 1 {
				out |= row[l]
			}
		}
		return out
	}
	final := bits(a.Final)
	return Of(a.Letters, bits(a.Start), next, func(set int) bool { return set&final != 0 })
}

func bits(states []int) int {
	set := 0
	for _, s := range states {
		set |= 1 << s
	}
	return set
}

package buchi

import "evermore/api"

// A trail is a state that is come to, and how: by a letter from an earlier trail (-1: it begins there).
type trail struct {
	state, from, letter int
}

// shortest answers, of the lassos whose head leads to a state of Final and whose loop leads from there to it
// again, one with the fewest letters. As both are the shortest ways, no state is come to twice in the head, nor
// in the loop: so neither has more letters than there are states.
func shortest(a api.Auto) (api.Lasso, bool) {
	best, found := api.Lasso{}, false
	steps := stepsFrom(a)
	heads := trails(steps, a.Start)
	for _, f := range a.Final {
		h := find(heads, f, 0)
		if h < 0 {
			continue
		}
		loops := trails(steps, []int{f})
		i := find(loops, f, 1)
		if i < 0 {
			continue
		}
		l := api.Lasso{Head: wordTo(heads, h), Loop: wordTo(loops, i)}
		if !found || length(l) < length(best) {
			best, found = l, true
		}
	}
	return best, found
}

func length(l api.Lasso) int { return len(l.Head) + len(l.Loop) }

func stepsFrom(a api.Auto) [][]api.Step {
	steps := make([][]api.Step, a.States)
	for _, x := range a.Steps {
		steps[x.From] = append(steps[x.From], x)
	}
	return steps
}

// trails begins with the states that it is given; behind them stand those that steps lead to, in the order of how
// many it takes. A state that it begins with comes a second time, if steps lead to it: so ways back are found.
func trails(steps [][]api.Step, begin []int) []trail {
	var out []trail
	for _, s := range begin {
		out = append(out, trail{s, -1, 0})
	}
	come := make([]bool, len(steps))
	for i := 0; i < len(out); i++ {
		for _, x := range steps[out[i].state] {
			if !come[x.To] {
				come[x.To] = true
				out = append(out, trail{x.To, i, x.Letter})
			}
		}
	}
	return out
}

// find answers the first trail of a state that stands at some place or behind it, -1: there is none.
func find(row []trail, state, at int) int {
	for i := at; i < len(row); i++ {
		if row[i].state == state {
			return i
		}
	}
	return -1
}

func wordTo(row []trail, at int) []int {
	many := 0
	for i := at; row[i].from >= 0; i = row[i].from {
		many++
	}
	w := make([]int, many)
	for i := at; row[i].from >= 0; i = row[i].from {
		many--
		w[many] = row[i].letter
	}
	return w
}

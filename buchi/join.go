package buchi

import (
	"slices"

	"evermore/api"
)

// beside answers both in one, the states of b behind those of a: who starts chooses.
func beside(a, b api.Auto) api.Auto {
	return api.Auto{
		Letters: a.Letters,
		States:  a.States + b.States,
		Start:   behind(a.Start, b.Start, a.States),
		Steps:   stepsBehind(a.Steps, b.Steps, a.States),
		Final:   behind(a.Final, b.Final, a.States),
	}
}

func behind(a, b []int, more int) []int {
	out := slices.Clone(a)
	for _, s := range b {
		out = append(out, more+s)
	}
	return out
}

func stepsBehind(a, b []api.Step, more int) []api.Step {
	out := slices.Clone(a)
	for _, x := range b {
		out = append(out, api.Step{From: more + x.From, Letter: x.Letter, To: more + x.To})
	}
	return out
}

// together goes by both at once: a state is one of a, one of b, and for which of the two it waits to be in its
// Final. It waits for a, then for b, then for a again, and so on: so both are in theirs again and again just
// where a is, again and again, while it is waited for.
func together(a, b api.Auto) api.Auto {
	number := func(s, t, waits int) int { return (s*b.States+t)*2 + waits }
	out := api.Auto{Letters: a.Letters, States: 2 * a.States * b.States}
	for _, s := range a.Start {
		for _, t := range b.Start {
			out.Start = append(out.Start, number(s, t, 0))
		}
	}
	for _, s := range a.Final {
		for t := range b.States {
			out.Final = append(out.Final, number(s, t, 0))
		}
	}
	finalA, finalB := finals(a), finals(b)
	for _, x := range a.Steps {
		for _, y := range b.Steps {
			if x.Letter != y.Letter {
				continue
			}
			for now, comes := range [2]bool{finalA[x.From], finalB[y.From]} {
				then := now
				if comes {
					then = 1 - now
				}
				out.Steps = append(out.Steps, api.Step{From: number(x.From, y.From, now), Letter: x.Letter, To: number(x.To, y.To, then)})
			}
		}
	}
	slices.SortFunc(out.Steps, order(out))
	return out
}

func finals(a api.Auto) []bool {
	is := make([]bool, a.States)
	for _, f := range a.Final {
		is[f] = true
	}
	return is
}

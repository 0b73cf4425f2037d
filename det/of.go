package det

import "evermore/api"

// Of answers an automaton whose states may be anything that can be compared: how one goes on by a letter, and
// which ones accept, is told by functions. The start is 0, the others are numbered as they are come to, state by
// state, letter by letter; so of two that differ in nothing but the names of their states the same comes out.
// There must be an end to the states that are come to.
func Of[S comparable](letters int, start S, next func(S, int) S, mark func(S) bool) api.Det {
	return Marked(letters, start, next, func(s S) int { return bit(mark(s)) })
}

// Marked is Of with whatever numbers for marks.
func Marked[S comparable](letters int, start S, next func(S, int) S, mark func(S) int) api.Det {
	d := api.Det{Letters: letters}
	states, number := []S{start}, map[S]int{start: 0}
	for i := 0; i < len(states); i++ {
		row := make([]int, letters)
		for l := range row {
			s := next(states[i], l)
			n, known := number[s]
			if !known {
				n = len(states)
				number[s] = n
				states = append(states, s)
			}
			row[l] = n
		}
		d.Next = append(d.Next, row)
		d.Mark = append(d.Mark, mark(states[i]))
	}
	return d
}

func bit(is bool) int {
	if is {
		return 1
	}
	return 0
}

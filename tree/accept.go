package tree

import "evermore/api"

// place is where a state stands in a list that has room ahead of the states for none: so a rule without children
// needs no words of its own.
func place(state int) int { return state - none }

// accepts gives each node all the states that it can be given, children first.
func accepts(a api.Trees, t api.Tree) bool {
	childless := make([]bool, place(a.States))
	childless[place(none)] = true
	var can [][]bool
	below := func(child int) []bool {
		if child == none {
			return childless
		}
		return can[child]
	}
	for _, n := range t.Nodes {
		left, right, here := below(n.Left), below(n.Right), make([]bool, place(a.States))
		for _, r := range a.Rules {
			if r.Letter == n.Letter && left[place(r.Left)] && right[place(r.Right)] {
				here[place(r.To)] = true
			}
		}
		can = append(can, here)
	}
	root := can[len(can)-1]
	for s, m := range a.Mark {
		if m == 1 && root[place(s)] {
			return true
		}
	}
	return false
}

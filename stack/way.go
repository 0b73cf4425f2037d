package stack

import "evermore/api"

// way answers the fewest rules that lead from a config to the end; they must not be too many.
//
// It goes along with the edges that read the stack at that cost: the topmost one gives way, by a rule, to those that
// read what the rule puts, which cost one less in all. An edge that costs nothing is the goal's own, and so are all
// below it.
func (x edges) way(l []api.Push, from api.Config, end int) []int {
	var rules []int
	run := x.cheapest(from.Control, from.Stack, end)
	for len(run) > 0 && x[run[len(run)-1]] > 0 {
		top := run[len(run)-1]
		rule := x.ruleOf(l, top)
		rules = append(rules, rule)
		run = append(run[:len(run)-1], x.cheapest(l[rule].To, l[rule].Put, top.to)...)
	}
	return rules
}

// ruleOf answers a rule by which an edge came to its cost.
func (x edges) ruleOf(l []api.Push, e edge) int {
	for i, r := range l {
		if r.From == e.from && r.Top == e.sign && sum(x.read(r.To, r.Put)[e.to], 1) == x[e] {
			return i
		}
	}
	return 0 // no edge that costs something is without one
}

// cheapest answers edges that read signs from one state to another at the least cost, the topmost sign's last.
func (x edges) cheapest(from int, signs []int, to int) []edge {
	var run []edge
	rows := x.reads(from, signs)
	for i := len(signs) - 1; i >= 0; i-- {
		e := x.lastOf(rows[i], signs[i], to, rows[i+1][to])
		run = append(run, e)
		to = e.from
	}
	return run
}

// lastOf answers an edge by which a state was come to at a cost.
func (x edges) lastOf(row costs, sign, to, cost int) edge {
	e := edge{sign: sign, to: to}
	for from, c := range row {
		e.from = from
		if sum(c, x.cost(e)) == cost {
			break
		}
	}
	return e
}

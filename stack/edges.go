package stack

import (
	"evermore/api"
	"evermore/det"
)

// The states that stacks are read by, the topmost sign first: the controls, then one behind each sign of the goal's
// stack.
const states = api.MaxStack + maxGoal

// A cost is how many rules it takes, at the fewest. All that is more than a way may have is one cost, so that
// costs, which may double with each edge, stay small; what no rules lead to costs more than all else.
const (
	tooMany = maxWay + 1
	never   = maxWay + 2
)

func sum(x, y int) int {
	if max(x, y) == never {
		return never
	}
	return min(x+y, tooMany)
}

// An edge reads a sign from one state to another. From a control it is there if rules lead from that sign alone, in
// that control, to no sign, in the other one; or to the goal's signs up to that state, in the goal's control. From
// elsewhere it reads the goal's signs alone.
type edge struct{ from, sign, to int }

// Of each edge that is there its cost.
type edges map[edge]int

// Of each state what it costs to come there.
type costs [states]int

func (x edges) cost(e edge) int {
	c, known := x[e]
	if !known {
		return never
	}
	return c
}

// behind answers the state behind so many of the goal's signs.
func behind(goal api.Config, signs int) int {
	if signs == 0 {
		return goal.Control
	}
	return api.MaxStack + signs - 1
}

func end(goal api.Config) int { return behind(goal, len(goal.Stack)) }

// towards answers the edges that read just those stacks from a control to the goal's end from which, in that control,
// the goal can be come to: the goal's own, which cost nothing, and all that rules make of them (Buchi).
func towards(l []api.Push, goal api.Config) edges {
	x := edges{}
	for i, sign := range goal.Stack {
		x[edge{behind(goal, i), sign, behind(goal, i+1)}] = 0
	}
	for x.grow(l) {
	}
	return x
}

// grow lets a rule's sign lead to wherever the signs lead that it gives way to, at the cost of one rule more, and
// tells whether an edge is new, or costs less. As costs do nothing but fall, that has an end.
func (x edges) grow(l []api.Push) bool {
	grew := false
	for _, r := range l {
		for to, c := range x.read(r.To, r.Put) {
			e := edge{r.From, r.Top, to}
			if cost := sum(c, 1); cost < x.cost(e) {
				x[e], grew = cost, true
			}
		}
	}
	return grew
}

// read answers what it costs to come to each state by signs.
func (x edges) read(start int, signs []int) costs {
	return x.reads(start, signs)[len(signs)]
}

// reads answers the same behind each of the signs, and ahead of them.
func (x edges) reads(start int, signs []int) []costs {
	rows := []costs{nowhere()}
	rows[0][start] = 0
	for i, sign := range signs {
		rows = append(rows, x.by(rows[i], sign))
	}
	return rows
}

func nowhere() costs {
	var row costs
	for s := range row {
		row[s] = never
	}
	return row
}

func (x edges) by(row costs, sign int) costs {
	next := nowhere()
	for from, c := range row {
		for to := range next {
			next[to] = min(next[to], sum(c, x.cost(edge{from, sign, to})))
		}
	}
	return next
}

// automata answers, of each control, the least automaton of the stacks that are read from it to the end.
func (x edges) automata(end int) []api.Det {
	a := api.Auto{Letters: api.MaxStack, States: states, Final: []int{end}}
	for from := range states {
		for sign := range api.MaxStack {
			for to := range states {
				if x.cost(edge{from, sign, to}) < never {
					a.Steps = append(a.Steps, api.Step{From: from, Letter: sign, To: to})
				}
			}
		}
	}
	var out []api.Det
	for control := range api.MaxStack {
		a.Start = []int{control}
		d, _ := det.Made(a) // that has nothing to refuse: the steps rise, and the states are few
		out = append(out, d)
	}
	return out
}

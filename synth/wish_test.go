package synth_test

import "evermore/api"

// A way is a step of a wish by each letter of which both sides' parts may be so: 0, 1, or either.
type way struct{ from, world, answerer, to int }

const either = 2

// wished has as many states as the ways and the lists name.
func wished(start, final []int, ways ...way) api.Auto {
	a := api.Auto{Letters: 4, Start: start, Final: final}
	var has [4][4][4]bool
	for _, w := range ways {
		a.States = max(a.States, w.from+1, w.to+1)
		for l := range 4 {
			if (w.world == either || w.world == l%2) && (w.answerer == either || w.answerer == l/2) {
				has[w.from][l][w.to] = true
			}
		}
	}
	for from := range has {
		for l := range has[from] {
			for to, is := range has[from][l] {
				if is {
					a.Steps = append(a.Steps, api.Step{From: from, Letter: l, To: to})
				}
			}
		}
	}
	return a
}

// echo: the answerer says what the world has said just now.
func echo() api.Auto {
	return wished([]int{0}, []int{0}, way{0, 0, 0, 0}, way{0, 1, 1, 0})
}

// late: it says what the world said in the turn ahead of this one; 0 at first.
func late() api.Auto {
	return wished([]int{0}, []int{0, 1}, way{0, 0, 0, 0}, way{0, 1, 0, 1}, way{1, 0, 1, 0}, way{1, 1, 1, 1})
}

// oddly: it says whether the world has said 1 an odd number of times.
func oddly() api.Auto {
	return wished([]int{0}, []int{0, 1}, way{0, 0, 0, 0}, way{0, 1, 1, 1}, way{1, 0, 1, 1}, way{1, 1, 0, 0})
}

// early: it says what the world will say in the turn behind.
func early() api.Auto {
	return wished([]int{2}, []int{0, 1},
		way{2, either, 0, 0}, way{2, either, 1, 1},
		way{0, 0, 0, 0}, way{0, 0, 1, 1}, way{1, 1, 0, 0}, way{1, 1, 1, 1})
}

// once: some time the world says 1 at first, or what the answerer said in the turn ahead.
func once() api.Auto {
	return wished([]int{1}, []int{2},
		way{0, 0, either, 2}, way{0, 1, 0, 0}, way{0, 1, 1, 1},
		way{1, 1, either, 2}, way{1, 0, 0, 0}, way{1, 0, 1, 1},
		way{2, either, either, 2})
}

// both: the world says 1 again and again just where the answerer does. That there is an end to both must be guessed.
func both() api.Auto {
	return wished([]int{0}, []int{2, 3},
		way{0, 0, either, 0}, way{0, 1, 0, 1}, way{0, 1, 1, 2},
		way{1, either, 0, 1}, way{1, either, 1, 2},
		way{2, 0, either, 0}, way{2, 1, 0, 1}, way{2, 1, 1, 2},
		way{0, 0, 0, 3}, way{1, 0, 0, 3}, way{2, 0, 0, 3}, way{3, 0, 0, 3})
}

// oracle: the answerer always says 1, and the world says 1 again and again; or 0, and there is an end to that.
func oracle() api.Auto {
	return wished([]int{0, 2}, []int{1, 3},
		way{0, 0, 1, 0}, way{0, 1, 1, 1}, way{1, 0, 1, 0}, way{1, 1, 1, 1},
		way{2, either, 0, 2}, way{2, 0, 0, 3}, way{3, 0, 0, 3})
}

// settles: at last the world always says the same.
func settles() api.Auto {
	return wished([]int{0}, []int{1, 2}, way{0, either, either, 0}, way{0, 0, either, 1}, way{0, 1, either, 2}, way{1, 0, either, 1}, way{2, 1, either, 2})
}

// never: there is no such word.
func never() api.Auto { return wished([]int{0}, nil, way{0, either, either, 0}) }

// always: all words are.
func always() api.Auto { return wished([]int{0}, []int{0}, way{0, either, either, 0}) }

// large are wishes that were looked for, by small changes: of many trees, and great machines.
func large() []api.Auto {
	return []api.Auto{
		{Letters: 4, States: 4, Start: []int{0, 2}, Final: []int{0}, Steps: []api.Step{
			{From: 0, Letter: 1, To: 1}, {From: 0, Letter: 2, To: 0}, {From: 0, Letter: 3, To: 2}, {From: 1, Letter: 0, To: 0},
			{From: 1, Letter: 0, To: 1}, {From: 1, Letter: 1, To: 3}, {From: 1, Letter: 2, To: 3}, {From: 1, Letter: 3, To: 3},
			{From: 2, Letter: 0, To: 3}, {From: 2, Letter: 1, To: 2}, {From: 2, Letter: 2, To: 1}, {From: 2, Letter: 3, To: 1},
			{From: 3, Letter: 0, To: 2}, {From: 3, Letter: 1, To: 0}, {From: 3, Letter: 2, To: 2}}},
		{Letters: 4, States: 4, Start: []int{0, 1, 2}, Final: []int{0}, Steps: []api.Step{
			{From: 0, Letter: 1, To: 1}, {From: 0, Letter: 3, To: 1}, {From: 1, Letter: 0, To: 2}, {From: 1, Letter: 1, To: 1},
			{From: 1, Letter: 1, To: 3}, {From: 1, Letter: 2, To: 3}, {From: 1, Letter: 3, To: 3}, {From: 2, Letter: 0, To: 3},
			{From: 2, Letter: 1, To: 0}, {From: 2, Letter: 1, To: 2}, {From: 2, Letter: 2, To: 0}, {From: 2, Letter: 2, To: 2},
			{From: 2, Letter: 3, To: 2}, {From: 3, Letter: 0, To: 1}, {From: 3, Letter: 1, To: 1}, {From: 3, Letter: 2, To: 0},
			{From: 3, Letter: 2, To: 1}, {From: 3, Letter: 3, To: 0}}},
		{Letters: 4, States: 4, Start: []int{0, 1}, Final: []int{0}, Steps: []api.Step{
			{From: 0, Letter: 0, To: 1}, {From: 0, Letter: 2, To: 0}, {From: 1, Letter: 0, To: 3}, {From: 1, Letter: 1, To: 1},
			{From: 1, Letter: 2, To: 3}, {From: 1, Letter: 3, To: 2}, {From: 2, Letter: 0, To: 2}, {From: 2, Letter: 1, To: 0},
			{From: 2, Letter: 1, To: 2}, {From: 2, Letter: 2, To: 0}, {From: 2, Letter: 2, To: 1}, {From: 2, Letter: 3, To: 3},
			{From: 3, Letter: 0, To: 0}, {From: 3, Letter: 1, To: 3}, {From: 3, Letter: 2, To: 2}, {From: 3, Letter: 3, To: 1}}},
	}
}

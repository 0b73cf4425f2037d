package det

import (
	"slices"

	"evermore/api"
)

// Fewest is Least of an automaton that the program made itself, over however many letters and with however many
// states: it takes d for one that is right, Check being for those that come from outside.
func Fewest(d api.Det) api.Det {
	reached := Of(d.Letters, d.Start, goes(d), accepts(d))
	class, one := classesOf(reached)
	next := func(c, l int) int { return class[reached.Next[one[c]][l]] }
	mark := func(c int) bool { return reached.Mark[one[c]] == 1 }
	return Of(d.Letters, class[reached.Start], next, mark)
}

func goes(d api.Det) func(int, int) int {
	return func(s, l int) int { return d.Next[s][l] }
}

func accepts(d api.Det) func(int) bool {
	return func(s int) bool { return d.Mark[s] == 1 }
}

// classes are sets of states that nothing has told apart yet.
type classes struct {
	order      []int // all states, class by class
	place      []int // where each state stands in order
	class      []int // of each state
	begin, end []int // of each class, in order
	picked     []int // of each class how many states at its beginning are picked, while parting; else 0
}

// classesOf answers the class of each state, those that no word tells apart being in one, and one state of each
// class (Hopcroft: of a class that is parted only the smaller half is looked at anew, so that a state is looked
// at no more often than its class can be halved).
func classesOf(d api.Det) (class, one []int) {
	c := together(len(d.Next))
	var accepting []int
	for s, m := range d.Mark {
		if m == 1 {
			accepting = append(accepting, s)
		}
	}
	c.part(accepting)
	back := backward(d)
	for k := 0; k < len(c.begin); k++ {
		members := slices.Clone(c.order[c.begin[k]:c.end[k]])
		for l := range d.Letters {
			var from []int
			for _, s := range members {
				from = append(from, back[l][s]...)
			}
			c.part(from)
		}
	}
	for _, at := range c.begin {
		one = append(one, c.order[at])
	}
	return c.class, one
}

// backward answers, of each letter, of each state, from where one comes to it.
func backward(d api.Det) [][][]int {
	back := make([][][]int, d.Letters)
	for l := range back {
		back[l] = make([][]int, len(d.Next))
		for s, row := range d.Next {
			back[l][row[l]] = append(back[l][row[l]], s)
		}
	}
	return back
}

func together(states int) *classes {
	c := &classes{begin: []int{0}, end: []int{states}, picked: []int{0}, class: make([]int, states)}
	for s := range states {
		c.order = append(c.order, s)
		c.place = append(c.place, s)
	}
	return c
}

// part takes the states, no two of them the same, away from those that are in one class with them, but are none
// of these.
func (c *classes) part(states []int) {
	var touched []int
	for _, s := range states {
		k := c.class[s]
		if c.picked[k] == 0 {
			touched = append(touched, k)
		}
		c.move(s, c.begin[k]+c.picked[k])
		c.picked[k]++
	}
	for _, k := range touched {
		at := c.begin[k] + c.picked[k]
		c.picked[k] = 0
		if at < c.end[k] {
			c.cut(k, at)
		}
	}
}

func (c *classes) move(s, to int) {
	from, other := c.place[s], c.order[to]
	c.order[from], c.order[to] = other, s
	c.place[other], c.place[s] = from, to
}

// cut makes the smaller side a new class, which is looked at later; if the greater one was looked at already,
// as a part of the whole, then that need not be done again.
func (c *classes) cut(k, at int) {
	begin, end := c.begin[k], c.end[k]
	if at-begin <= end-at {
		end, c.begin[k] = at, at
	} else {
		begin, c.end[k] = at, at
	}
	for _, s := range c.order[begin:end] {
		c.class[s] = len(c.begin)
	}
	c.begin = append(c.begin, begin)
	c.end = append(c.end, end)
	c.picked = append(c.picked, 0)
}

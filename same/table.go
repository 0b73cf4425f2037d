package same

import (
	"slices"

	"evermore/api"
)

// none is in the place of an arrow's number, where there is no such arrow.
const none = -1

// A table has pairs of places. Of each pair that does not stand in it any more it keeps the arrow that put it out.
type table struct {
	api.Graph
	out [][]int
}

// full has all pairs.
func full(g api.Graph) table {
	t := table{g, make([][]int, g.Places)}
	for p := range t.out {
		t.out[p] = slices.Repeat([]int{none}, g.Places)
	}
	return t
}

func (t table) stands(p, q int) bool { return t.out[p][q] == none }

// lessen puts out each pair for which told names an arrow, until there are none: what stands then is the greatest
// table in which it names none, as a pair that cannot stand beside some others cannot stand beside less.
func (t table) lessen(told func(p, q int) int) {
	for again := true; again; {
		again = false
		for p := range t.out {
			for q := range t.out {
				if t.stands(p, q) {
					t.out[p][q] = told(p, q)
					again = again || !t.stands(p, q)
				}
			}
		}
	}
}

// unanswered names an arrow from p, such that none by its letter leads from q to a place that stands with where it leads.
func (t table) unanswered(p, q int) int {
	return slices.IndexFunc(t.Arrows, func(a api.Arrow) bool {
		return a.From == p && !slices.ContainsFunc(t.Arrows, func(b api.Arrow) bool {
			return b.From == q && b.Letter == a.Letter && t.stands(a.To, b.To)
		})
	})
}

// served has the pairs in which q can do whatever p does.
func served(g api.Graph) table {
	t := full(g)
	t.lessen(t.unanswered)
	return t
}

// alike has the pairs of places that cannot be told apart: each does whatever the other one does.
func alike(g api.Graph) table {
	t := full(g)
	t.lessen(func(p, q int) int {
		if a := t.unanswered(p, q); a != none {
			return a
		}
		return t.unanswered(q, p)
	})
	return t
}

// classes numbers the places of a table in which each place stands with those that are like it: so with itself.
func (t table) classes() []int {
	numbers := make([]int, t.Places)
	next := 0
	for p := range numbers {
		if first := slices.Index(t.out[p], none); first < p {
			numbers[p] = numbers[first]
			continue
		}
		numbers[p] = next
		next++
	}
	return numbers
}

package weigh

import (
	"slices"

	"evermore/api"
)

// beside goes by a or by b: each word weighs what it weighs by both together.
func beside(a, b api.Weigh) api.Weigh {
	c := api.Weigh{
		Letters: a.Letters,
		First:   slices.Concat(a.First, b.First),
		Last:    slices.Concat(a.Last, b.Last),
	}
	for l := range a.Letters {
		c.Step = append(c.Step, tableBeside(a.Step[l], b.Step[l]))
	}
	return c
}

func tableBeside(s, t [][]int) [][]int {
	var table [][]int
	for _, row := range s {
		table = append(table, slices.Concat(row, make([]int, len(t))))
	}
	for _, row := range t {
		table = append(table, slices.Concat(make([]int, len(s)), row))
	}
	return table
}

// paired goes by both at once, a state being a state of a and one of b.
func paired(a, b api.Weigh) api.Weigh {
	c := api.Weigh{
		Letters: a.Letters,
		First:   rowPaired(a.First, b.First),
		Last:    rowPaired(a.Last, b.Last),
	}
	for l := range a.Letters {
		var table [][]int
		for _, row := range a.Step[l] {
			for _, other := range b.Step[l] {
				table = append(table, rowPaired(row, other))
			}
		}
		c.Step = append(c.Step, table)
	}
	return c
}

func rowPaired(v, w []int) []int {
	var row []int
	for _, x := range v {
		for _, y := range w {
			row = append(row, x*y)
		}
	}
	return row
}

// below weighs each word by the same number, below 0 where it was above.
func below(a api.Weigh) api.Weigh {
	a.Last = rowPaired([]int{-1}, a.Last)
	return a
}

// mirrored weighs each word as a weighs the word that is read from its end on.
func mirrored(a api.Weigh) api.Weigh {
	c := api.Weigh{Letters: a.Letters, First: a.Last, Last: a.First}
	for _, table := range a.Step {
		var turned [][]int
		for j := range table {
			turned = append(turned, column(table, j))
		}
		c.Step = append(c.Step, turned)
	}
	return c
}

func column(table [][]int, j int) []int {
	var out []int
	for _, row := range table {
		out = append(out, row[j])
	}
	return out
}

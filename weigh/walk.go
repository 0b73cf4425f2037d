package weigh

import (
	"iter"
	"slices"

	"evermore/api"
)

// A place is a word, and First times its tables: what is on the way to each state.
type place struct {
	word []int
	row  []number
}

// by goes on by a letter.
func (p place) by(a api.Weigh, letter int) place {
	return place{slices.Concat(p.word, []int{letter}), step(p.row, a.Step[letter])}
}

func step(row []number, table [][]int) []number {
	var next []number
	for j := range table {
		next = append(next, total(row, column(table, j)))
	}
	return next
}

// weight answers what a word adds up to from a row on.
func weight(a api.Weigh, row []number, w []int) number {
	for _, l := range w {
		row = step(row, a.Step[l])
	}
	return total(row, a.Last)
}

// walk goes through the words in their order (C2), as far as what look sees at them is new: no sum of multiples of what
// it saw before. Behind a word at which it is not, nothing is new either, if look sees of a sum of rows the sum of what
// it sees of them, and sees nothing behind a row of which it sees nothing. So there are no more such words than states.
func walk(a api.Weigh, look func(row []number) []number) iter.Seq[place] {
	return func(yield func(place) bool) {
		seen := nothingSeen()
		come := []place{{nil, numbers(a.First)}}
		for len(come) > 0 {
			p := come[0]
			come = come[1:]
			if !seen.adds(look(p.row)) {
				continue
			}
			if !yield(p) {
				return
			}
			for l := range a.Letters {
				come = append(come, p.by(a, l))
			}
		}
	}
}

func all(row []number) []number { return row }

// weighty answers the first word that does not weigh 0, if there is one. One whose row is a sum of multiples of earlier
// rows is not the first: one of the earlier words would not weigh 0 either, with the same letters behind it or without.
func weighty(a api.Weigh) ([]int, bool) {
	for p := range walk(a, all) {
		if total(p.row, a.Last) != (number{}) {
			return p.word, true
		}
	}
	return nil, false
}

// rank counts the words that are new by what they weigh with ends behind them. Other ends than those by which a
// mirrored walk goes would tell no more: each weighs a sum of multiples of what these weigh.
func rank(a api.Weigh) int {
	var ends [][]int
	for p := range walk(mirrored(a), all) {
		ends = append(ends, backwards(p.word))
	}
	weights := func(row []number) []number {
		var out []number
		for _, w := range ends {
			out = append(out, weight(a, row, w))
		}
		return out
	}
	count := 0
	for range walk(a, weights) {
		count++
	}
	return count
}

func backwards(w []int) []int {
	var out []int
	for _, l := range slices.Backward(w) {
		out = append(out, l)
	}
	return out
}

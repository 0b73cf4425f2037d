package learn

import (
	"slices"

	"evermore/api"
	"evermore/det"
)

// teacher knows the words, and writes down each query with its answer.
type teacher struct {
	words   api.Det
	queries []api.Query
}

// accepts answers a query of a word. No word comes that Accepts would refuse: see learner.
func (t *teacher) accepts(w []int) bool {
	yes, _ := det.Accepts(t.words, w)
	t.queries = append(t.queries, api.Query{Word: slices.Clone(w), Yes: yes})
	return yes
}

// right answers a guess, which it keeps; where it is wrong, by the first word that shows it.
func (t *teacher) right(guess api.Det) ([]int, bool) {
	w, differ, _ := det.Differ(guess, t.words)
	t.queries = append(t.queries, api.Query{Guessed: true, Word: slices.Clone(w), Guess: guess, Right: !differ})
	return w, !differ
}

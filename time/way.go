package time

import (
	"slices"

	"evermore/api"
)

// A way is the places of a lasso: its head, then its loop. Behind the last one stands the loop's first one.
type way struct {
	word []int
	turn int // where the loop begins
}

func newWay(l api.Lasso) way {
	return way{word: slices.Concat(l.Head, l.Loop), turn: len(l.Head)}
}

func (w way) after(place int) int {
	if place++; place < len(w.word) {
		return place
	}
	return w.turn
}

// along answers of each place whether the node is true there.
func (n *node) along(w way) []bool {
	var left, right []bool
	if n.left != nil {
		left = n.left.along(w)
	}
	if n.right != nil {
		right = n.right.along(w)
	}
	if n.kind == until {
		return w.comes(left, right)
	}
	out := make([]bool, len(w.word))
	for i, letter := range w.word {
		switch n.kind {
		case always:
			out[i] = true
		case isP:
			out[i] = hasP(letter)
		case isQ:
			out[i] = hasQ(letter)
		case not:
			out[i] = !left[i]
		case both:
			out[i] = left[i] && right[i]
		case either:
			out[i] = left[i] || right[i]
		case next:
			out[i] = left[w.after(i)]
		}
	}
	return out
}

// comes tells of each place whether a goal comes, and it keeps until then. It goes back from the end twice: at the
// first time it does not know yet what comes when the loop begins anew.
func (w way) comes(keeps, goal []bool) []bool {
	out := make([]bool, len(goal))
	for range 2 {
		for i := range slices.Backward(out) {
			out[i] = goal[i] || keeps[i] && out[w.after(i)]
		}
	}
	return out
}

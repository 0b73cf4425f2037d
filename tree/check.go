package tree

import (
	"cmp"

	"evermore/api"
)

// none stands in the place of a child, or of its state, where there is no child.
const none = -1

func isLetters(letters int) bool { return 1 <= letters && letters <= api.MaxLetters }

func isOf(x, many int) bool { return 0 <= x && x < many }

func rulesWithin(t api.Trees) bool {
	for _, r := range t.Rules {
		children := isOf(r.Left, t.States) && isOf(r.Right, t.States)
		childless := r.Left == none && r.Right == none
		if !isOf(r.Letter, t.Letters) || !isOf(r.To, t.States) || !children && !childless {
			return false
		}
	}
	return true
}

func marksWithin(t api.Trees) bool {
	for _, m := range t.Mark {
		if m != 0 && m != 1 {
			return false
		}
	}
	return true
}

// Rise tells whether rules rise, by Letter, then Left, then Right, then To.
func Rise(rules []api.Rule) bool {
	for i := 1; i < len(rules); i++ {
		if order(rules[i-1], rules[i]) >= 0 {
			return false
		}
	}
	return true
}

func order(x, y api.Rule) int {
	return cmp.Or(
		cmp.Compare(x.Letter, y.Letter),
		cmp.Compare(x.Left, y.Left),
		cmp.Compare(x.Right, y.Right),
		cmp.Compare(x.To, y.To),
	)
}

// take gives a node its children, out of the nodes ahead of it, and tells whether it may have them.
func take(taken []bool, n api.Node) bool {
	if n.Left == none && n.Right == none {
		return true
	}
	for _, child := range [2]int{n.Left, n.Right} {
		if !isOf(child, len(taken)) || taken[child] {
			return false
		}
		taken[child] = true
	}
	return true
}

package tree

import "evermore/api"

// A set has a bit at the place of each of its states; that of a child that is not there has one at none's.
type set int

func alone(state int) set { return 1 << place(state) }

func (s set) has(state int) bool { return s&alone(state) != 0 }

// A step leads from the sets of both children to that of their parent, by its letter.
type step func(letter int, left, right set) set

// others goes by all rules at once: a state of it is the set of those that a tree's root can be given. Each tree leads
// to just one set; so it is one of the others where no state of that set has the mark 1.
func others(a api.Trees) api.Trees {
	next := func(letter int, left, right set) set {
		to := set(0)
		for _, r := range a.Rules {
			if r.Letter == letter && left.has(r.Left) && right.has(r.Right) {
				to |= alone(r.To)
			}
		}
		return to
	}
	sets, number := comeTo(a.Letters, next)
	out := api.Trees{Letters: a.Letters, States: len(sets)}
	for l := range a.Letters {
		leaf := next(l, alone(none), alone(none))
		out.Rules = append(out.Rules, api.Rule{Letter: l, Left: none, Right: none, To: number[leaf]})
		for p, left := range sets {
			for q, right := range sets {
				out.Rules = append(out.Rules, api.Rule{Letter: l, Left: p, Right: q, To: number[next(l, left, right)]})
			}
		}
	}
	for _, s := range sets {
		out.Mark = append(out.Mark, unmarked(a, s))
	}
	return out
}

// unmarked is the mark of a set among the others.
func unmarked(a api.Trees, s set) int {
	for state, m := range a.Mark {
		if m == 1 && s.has(state) {
			return 0
		}
	}
	return 1
}

// comeTo answers the sets that trees lead to, and their numbers in that list. Each two are looked at when the later
// one's turn comes.
func comeTo(letters int, next step) ([]set, map[set]int) {
	var sets []set
	number := map[set]int{}
	come := func(s set) {
		if _, known := number[s]; !known {
			number[s] = len(sets)
			sets = append(sets, s)
		}
	}
	for l := range letters {
		come(next(l, alone(none), alone(none)))
	}
	for i := 0; i < len(sets); i++ {
		for j := range i + 1 {
			for l := range letters {
				come(next(l, sets[i], sets[j]))
				come(next(l, sets[j], sets[i]))
			}
		}
	}
	return sets, number
}

// both answers an automaton that accepts what both of two do: a state of it is one of each. Its rules need not rise.
func both(a, b api.Trees) api.Trees {
	pair := func(p, q int) int {
		if p == none {
			return none
		}
		return p*b.States + q
	}
	out := api.Trees{Letters: a.Letters, States: a.States * b.States}
	for _, x := range a.Rules {
		for _, y := range b.Rules {
			if x.Letter == y.Letter && (x.Left == none) == (y.Left == none) {
				out.Rules = append(out.Rules, api.Rule{
					Letter: x.Letter,
					Left:   pair(x.Left, y.Left),
					Right:  pair(x.Right, y.Right),
					To:     pair(x.To, y.To),
				})
			}
		}
	}
	for _, m := range a.Mark {
		for _, n := range b.Mark {
			out.Mark = append(out.Mark, m*n)
		}
	}
	return out
}

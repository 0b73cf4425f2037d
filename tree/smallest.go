package tree

import "evermore/api"

// Numbers of nodes: beyond stands for all above MaxTree, as the smallest tree of many states can have more nodes than an
// int can count; never stands where no tree is known.
const (
	beyond = api.MaxTree + 1
	never  = api.MaxTree + 2
)

// A seed of a state is how many nodes the smallest tree has whose root can be in it, and by which rule the root is.
type seed struct {
	nodes int
	rule  api.Rule
}

// seeds has one at the place of each state.
type seeds []seed

// newSeeds looks at rules until none makes a tree smaller. Each smallest tree that is not beyond has no more than MaxTree
// levels, and is found in as many rounds; of the other states it is enough that some tree is known, which takes no more
// rounds than there are states.
func newSeeds(a api.Trees) seeds {
	s := make(seeds, place(a.States))
	for i := range s {
		s[i].nodes = never
	}
	s[place(none)].nodes = 0
	for smaller := true; smaller; {
		smaller = false
		for _, r := range a.Rules {
			if n := s.nodes(r); n < s[place(r.To)].nodes {
				s[place(r.To)] = seed{n, r}
				smaller = true
			}
		}
	}
	return s
}

func (s seeds) nodes(r api.Rule) int {
	left, right := s[place(r.Left)].nodes, s[place(r.Right)].nodes
	if left == never || right == never {
		return never
	}
	return min(1+left+right, beyond)
}

// grow appends the smallest tree of a state to a tree, and answers its root. It must not be asked where that tree is
// beyond.
func (s seeds) grow(t *api.Tree, state int) int {
	if state == none {
		return none
	}
	r := s[place(state)].rule
	left := s.grow(t, r.Left)
	right := s.grow(t, r.Right)
	t.Nodes = append(t.Nodes, api.Node{Letter: r.Letter, Left: left, Right: right})
	return len(t.Nodes) - 1
}

// smallest answers a tree that is accepted, with the fewest nodes, and how many they are; or no tree, and beyond, or
// never.
func smallest(a api.Trees) (api.Tree, int) {
	s, best, nodes := newSeeds(a), none, never
	for state, m := range a.Mark {
		if n := s[place(state)].nodes; m == 1 && n < nodes {
			best, nodes = state, n
		}
	}
	var t api.Tree
	if nodes < beyond {
		s.grow(&t, best)
	}
	return t, nodes
}

package safra

import (
	"evermore/api"
	"evermore/det"
)

// A set of states, as bits.
type set uint8

// A tree has nodes, numbered by their age: the root, 0, holds the states that some steps lead to by the letters so
// far; a child those of its parent's that were of Final when the child grew, and then what steps lead to from them;
// what two children could hold is the older one's. Each node holds a state that none of its children does: so there
// are no more nodes than states. An empty set is no node.
type tree struct {
	sets    [api.MaxSmall]set
	parents [api.MaxSmall]int
}

// Of a step each node can have two marks, the older one the lower ones: one, odd, for that it goes, one, even, for
// that it flashes; a step has the least of those. If neither comes, the step is quiet.
const quiet = 2*api.MaxSmall + 1

func goes(node int) int    { return 2*node + 1 }
func flashes(node int) int { return 2*node + 2 }

// A maker makes trees of trees, by letters.
type maker struct {
	to    [api.MaxLetters][api.MaxSmall]set
	final set
}

func newMaker(a api.Auto) *maker {
	m := &maker{final: setOf(a.Final)}
	for _, x := range a.Steps {
		m.to[x.Letter][x.From] |= 1 << x.To
	}
	return m
}

func setOf(states []int) set {
	var s set
	for _, x := range states {
		s |= 1 << x
	}
	return s
}

// A stand is a tree, and the mark of the step that led to it.
type stand struct {
	tree tree
	mark int
}

// made answers an automaton of trees. A word is accepted just where a node that stays for ever flashes again and
// again (Safra). Such a node keeps its number at last, when all the older ones that go have gone: from then on no step
// has an odd mark below that of its flashes. And where the least mark that comes again and again is a flash's, there
// at last it is always that of one node, as neither it nor an older one goes (Piterman, Schewe). Whatever the letters
// do, four states have at most 600 stands.
func made(a api.Auto) api.Det {
	m := newMaker(a)
	start := stand{tree{sets: [api.MaxSmall]set{setOf(a.Start)}}, quiet}
	next := func(s stand, letter int) stand { return m.next(s.tree, letter) }
	return det.Marked(a.Letters, start, next, func(s stand) int { return s.mark })
}

// other turns odd into even: no mark of made is 0.
func other(a api.Auto) api.Det {
	d := made(a)
	for s := range d.Mark {
		d.Mark[s]--
	}
	return d
}

func (m *maker) next(t tree, letter int) stand {
	b := m.grown(t, letter)
	b.share()
	mark := b.thin()
	return stand{b.tree(), mark}
}

// A bush is a tree within a step: there each node has a child more.
type bush struct {
	nodes, old int // how many there are; how many the tree had
	sets       [2 * api.MaxSmall]set
	parents    [2 * api.MaxSmall]int
	below      [2 * api.MaxSmall]set // what a node's children hold
}

func (b *bush) add(s set, parent int) {
	b.sets[b.nodes], b.parents[b.nodes] = s, parent
	b.nodes++
}

func (m *maker) grown(t tree, letter int) *bush {
	b := &bush{}
	for i, s := range t.sets {
		if s != 0 {
			b.add(m.after(s, letter), t.parents[i])
		}
	}
	b.old = b.nodes
	for i := range b.old {
		b.add(b.sets[i]&m.final, i)
	}
	return b
}

func (m *maker) after(s set, letter int) set {
	var out set
	for x, to := range m.to[letter] {
		if s>>x&1 == 1 {
			out |= to
		}
	}
	return out
}

// share leaves each state to the oldest of the children that hold it; what a node loses, all below it lose.
func (b *bush) share() {
	for i := 1; i < b.nodes; i++ {
		p := b.parents[i]
		b.sets[i] &= b.sets[p] &^ b.below[p]
		b.below[p] |= b.sets[i]
	}
}

// thin lets those nodes flash that hold nothing but what their children do: then all below them goes. It answers
// the step's mark. New nodes have no part in that: nothing has been seen of them.
func (b *bush) thin() int {
	mark := quiet
	var bare [2 * api.MaxSmall]bool
	for i := range b.nodes {
		if bare[b.parents[i]] {
			b.sets[i] = 0
		}
		bare[i] = b.sets[i]&^b.below[i] == 0
		if bare[i] && i < b.old {
			mark = min(mark, b.told(i))
		}
	}
	return mark
}

func (b *bush) told(node int) int {
	if b.sets[node] == 0 {
		return goes(node)
	}
	return flashes(node)
}

// tree numbers the nodes that are left anew: so those behind one that went have lower numbers than they had.
func (b *bush) tree() tree {
	var t tree
	var number [2 * api.MaxSmall]int
	many := 0
	for i := range b.nodes {
		if b.sets[i] != 0 {
			number[i] = many
			t.sets[many], t.parents[many] = b.sets[i], number[b.parents[i]]
			many++
		}
	}
	return t
}

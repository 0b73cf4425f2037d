package tree_test

import (
	"cmp"
	"fmt"
	"math/bits"
	"slices"
	"testing"

	"evermore/api"
	"evermore/tree"
)

func leaf(letter int) api.Node { return api.Node{Letter: letter, Left: -1, Right: -1} }

func nodes(list ...api.Node) api.Tree { return api.Tree{Nodes: list} }

// auto puts rules in order.
func auto(letters int, mark []int, rules ...api.Rule) api.Trees {
	return api.Trees{Letters: letters, States: len(mark), Rules: inOrder(rules), Mark: mark}
}

func inOrder(rules []api.Rule) []api.Rule {
	slices.SortFunc(rules, func(x, y api.Rule) int {
		return cmp.Or(x.Letter-y.Letter, x.Left-y.Left, x.Right-y.Right, x.To-y.To)
	})
	return slices.Compact(rules)
}

// ruleSpace has all rules that there can be.
func ruleSpace(letters, states int) []api.Rule {
	var out []api.Rule
	for l := range letters {
		for to := range states {
			out = append(out, api.Rule{Letter: l, Left: -1, Right: -1, To: to})
			for p := range states {
				for q := range states {
					out = append(out, api.Rule{Letter: l, Left: p, Right: q, To: to})
				}
			}
		}
	}
	return inOrder(out)
}

// automata shows all automata of so many letters and states.
func automata(letters, states int, see func(api.Trees)) {
	space := ruleSpace(letters, states)
	for chosen := range 1 << len(space) {
		for marks := range 1 << states {
			a := api.Trees{Letters: letters, States: states}
			for i, r := range space {
				if chosen>>i&1 == 1 {
					a.Rules = append(a.Rules, r)
				}
			}
			for s := range states {
				a.Mark = append(a.Mark, marks>>s&1)
			}
			see(a)
		}
	}
}

// allTrees has all trees of so many nodes, left below ahead of right below.
func allTrees(letters, many int) []api.Tree {
	var out []api.Tree
	for l := range letters {
		if many == 1 {
			out = append(out, nodes(leaf(l)))
		}
		for left := 1; left < many-1; left += 2 {
			for _, x := range allTrees(letters, left) {
				for _, y := range allTrees(letters, many-1-left) {
					out = append(out, joined(l, x, y))
				}
			}
		}
	}
	return out
}

func joined(letter int, x, y api.Tree) api.Tree {
	list := slices.Clone(x.Nodes)
	for _, n := range y.Nodes {
		if n.Left >= 0 {
			n.Left, n.Right = n.Left+len(x.Nodes), n.Right+len(x.Nodes)
		}
		list = append(list, n)
	}
	return api.Tree{Nodes: append(list, api.Node{Letter: letter, Left: len(x.Nodes) - 1, Right: len(list) - 1})}
}

// upTo has all trees of at most so many nodes.
func upTo(letters, most int) []api.Tree {
	var out []api.Tree
	for many := 1; many <= most; many += 2 {
		out = append(out, allTrees(letters, many)...)
	}
	return out
}

// given goes, by the words of L3, through all the ways to give the nodes states.
func given(a api.Trees, t api.Tree) bool {
	states := make([]int, len(t.Nodes))
	for {
		if a.Mark[states[len(states)-1]] == 1 && ruled(a, t, states) {
			return true
		}
		i := 0
		for ; i < len(states) && states[i] == a.States-1; i++ {
			states[i] = 0
		}
		if i == len(states) {
			return false
		}
		states[i]++
	}
}

func ruled(a api.Trees, t api.Tree, states []int) bool {
	for i, n := range t.Nodes {
		r := api.Rule{Letter: n.Letter, Left: -1, Right: -1, To: states[i]}
		if n.Left >= 0 {
			r.Left, r.Right = states[n.Left], states[n.Right]
		}
		if !slices.Contains(a.Rules, r) {
			return false
		}
	}
	return true
}

// accepted asks from the root down, each node and state once.
func accepted(a api.Trees, t api.Tree) bool {
	known := map[[2]int]bool{}
	var can func(node, state int) bool
	can = func(node, state int) bool {
		if node < 0 || state < 0 {
			return node < 0 && state < 0
		}
		is, asked := known[[2]int{node, state}]
		if asked {
			return is
		}
		n := t.Nodes[node]
		for _, r := range a.Rules {
			is = is || r.To == state && r.Letter == n.Letter && can(n.Left, r.Left) && can(n.Right, r.Right)
		}
		known[[2]int{node, state}] = is
		return is
	}
	for s, m := range a.Mark {
		if m == 1 && can(len(t.Nodes)-1, s) {
			return true
		}
	}
	return false
}

// fewest answers how few nodes a tree has that is accepted, if at most 60: it asks of each number which states the
// roots of trees of just so many can be in.
func fewest(a api.Trees) (int, bool) {
	var can [61][]bool
	for n := 1; n <= 60; n++ {
		can[n] = make([]bool, a.States)
		for _, r := range a.Rules {
			if r.Left < 0 {
				can[n][r.To] = can[n][r.To] || n == 1
				continue
			}
			for left := 1; left < n-1 && !can[n][r.To]; left++ {
				can[n][r.To] = can[left][r.Left] && can[n-1-left][r.Right]
			}
		}
		for s, m := range a.Mark {
			if m == 1 && can[n][s] {
				return n, true
			}
		}
	}
	return 0, false
}

// A mask has the states, up to 64, that a root can be given.
type mask uint64

func (m mask) accepts(a api.Trees) bool {
	for s, x := range a.Mark {
		if x == 1 && m>>s&1 == 1 {
			return true
		}
	}
	return false
}

// A table has, of a letter and the states of two children (or -1, -1), the states that rules lead to.
type table struct {
	states int
	to     []mask
}

func tableOf(a api.Trees) table {
	t := table{a.States, make([]mask, a.Letters*(a.States+1)*(a.States+1))}
	for _, r := range a.Rules {
		t.to[t.at(r.Letter, r.Left, r.Right)] |= 1 << r.To
	}
	return t
}

func (t table) at(letter, left, right int) int {
	return (letter*(t.states+1)+left+1)*(t.states+1) + right + 1
}

func (t table) leaf(letter int) mask { return t.to[t.at(letter, -1, -1)] }

func (t table) above(letter int, left, right mask) mask {
	var m mask
	for l := left; l != 0; l &= l - 1 {
		for r := right; r != 0; r &= r - 1 {
			m |= t.to[t.at(letter, bits.TrailingZeros64(uint64(l)), bits.TrailingZeros64(uint64(r)))]
		}
	}
	return m
}

// large is as many nodes as no tree here is asked to have.
const large = 1 << 40

// A twin is what one tree leads to by two automata, with the fewest nodes of such a tree.
type twin struct {
	by    [2]mask
	nodes int
}

// twins has all that trees can lead to, by two automata at once; then it makes their trees smaller until none becomes
// so.
func twins(a, b api.Trees) []twin {
	out, above := twinsComeTo(a, b)
	for more := true; more; {
		more = false
		for _, x := range above {
			if n := 1 + out[x[0]].nodes + out[x[1]].nodes; n < out[x[2]].nodes {
				out[x[2]].nodes, more = n, true
			}
		}
	}
	return out
}

// twinsComeTo answers the twins, those of a node without children with one node, and for each two of them what the
// parent of both is.
func twinsComeTo(a, b api.Trees) ([]twin, [][3]int) {
	ta, tb := tableOf(a), tableOf(b)
	var out []twin
	var above [][3]int
	number := map[[2]mask]int{}
	see := func(by [2]mask, n int) int {
		if _, known := number[by]; !known {
			number[by] = len(out)
			out = append(out, twin{by, n})
		}
		return number[by]
	}
	join := func(letter, i, j int) {
		x, y := out[i].by, out[j].by
		to := see([2]mask{ta.above(letter, x[0], y[0]), tb.above(letter, x[1], y[1])}, large-1)
		above = append(above, [3]int{i, j, to})
	}
	for l := range a.Letters {
		see([2]mask{ta.leaf(l), tb.leaf(l)}, 1)
	}
	for i := 0; i < len(out); i++ {
		for j := range i + 1 {
			for l := range a.Letters {
				join(l, i, j)
				join(l, j, i)
			}
		}
	}
	return out, above
}

// judgeOther tells what is wrong with what Other answers, of all trees.
func judgeOther(a, o api.Trees) string {
	if e := tree.Check(o); e != api.OK {
		return e.Error()
	}
	if o.Letters != a.Letters || o.States > 64 {
		return "other letters, or more states than a mask has"
	}
	for _, x := range twins(a, o) {
		if x.by[0].accepts(a) == x.by[1].accepts(o) {
			return fmt.Sprint("both accept a tree, or none does, of nodes: ", x.nodes)
		}
	}
	return ""
}

// leastOutside answers how few nodes a tree has that a accepts and b does not; large: there is none.
func leastOutside(a, b api.Trees) int {
	least := large
	for _, x := range twins(a, b) {
		if x.by[0].accepts(a) && !x.by[1].accepts(b) {
			least = min(least, x.nodes)
		}
	}
	return least
}

// tryOther answers Other of one that is right.
func tryOther(t *testing.T, a api.Trees) api.Trees {
	t.Helper()
	o, e := tree.Other(a)
	if e != api.OK {
		t.Fatal(a, e)
	}
	if s := judgeOther(a, o); s != "" {
		t.Fatal(a, o, s)
	}
	return o
}

// trySome answers how many nodes Some's tree has, 0 if there is none.
func trySome(t *testing.T, a api.Trees) int {
	t.Helper()
	x, some, e := tree.Some(a)
	n, is := fewest(a)
	if e != api.OK || some != is || len(x.Nodes) != n {
		t.Fatal(a, x, some, e, n, is)
	}
	if some && (tree.Tree(a.Letters, x) != api.OK || !accepted(a, x)) {
		t.Fatal(a, x)
	}
	return n
}

// tryWithin answers how few nodes a tree outside has, large if there is none.
func tryWithin(t *testing.T, a, b api.Trees) int {
	t.Helper()
	x, within, e := tree.Within(a, b)
	least := leastOutside(a, b)
	switch {
	case least == large:
		if !within || e != api.OK || len(x.Nodes) != 0 {
			t.Fatal(a, b, x, within, e, "but it is within")
		}
	case least > 60:
		if within || e != api.ErrFull || len(x.Nodes) != 0 {
			t.Fatal(a, b, x, within, e, least)
		}
	default:
		if within || e != api.OK || tree.Tree(a.Letters, x) != api.OK || !accepted(a, x) || accepted(b, x) {
			t.Fatal(a, b, x, within, e, least)
		}
	}
	return least
}

// dice is a row of numbers that looks like chance, and is the same each time.
type dice uint32

func (x *dice) roll(n int) int {
	*x = *x*1664525 + 1013904223
	return int(*x>>8) % n
}

// auto has of each hundred rules so many.
func (x *dice) auto(letters, states, percent int) api.Trees {
	a := api.Trees{Letters: letters, States: states}
	for _, r := range ruleSpace(letters, states) {
		if x.roll(100) < percent || r.Left < 0 && x.roll(3) == 0 {
			a.Rules = append(a.Rules, r)
		}
	}
	for range states {
		a.Mark = append(a.Mark, x.roll(2))
	}
	return a
}

// changed has some rules more, and some fewer; at times another mark.
func (x *dice) changed(a api.Trees) api.Trees {
	space := ruleSpace(a.Letters, a.States)
	a.Rules, a.Mark = slices.Clone(a.Rules), slices.Clone(a.Mark)
	for range 1 + x.roll(3) {
		if i := x.roll(len(a.Rules) + 1); x.roll(2) == 0 && i < len(a.Rules) {
			a.Rules = slices.Delete(a.Rules, i, i+1)
		} else {
			a.Rules = inOrder(append(a.Rules, space[x.roll(len(space))]))
		}
	}
	if x.roll(15) == 0 {
		a.Mark[x.roll(a.States)] ^= 1
	}
	return a
}

// tree has so many nodes, an odd number, in any order in which children come ahead of their parents.
func (x *dice) tree(letters, many int) api.Tree {
	var t api.Tree
	var free []int
	take := func() int {
		i := x.roll(len(free))
		n := free[i]
		free = slices.Delete(free, i, i+1)
		return n
	}
	leaves := (many + 1) / 2
	for n := range many {
		node := leaf(x.roll(letters))
		if leaves == 0 || len(free) > 1 && x.roll(2) == 0 {
			node.Left, node.Right = take(), take()
		} else {
			leaves--
		}
		t.Nodes = append(t.Nodes, node)
		free = append(free, n)
	}
	return t
}

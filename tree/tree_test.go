package tree_test

import (
	"math"
	"reflect"
	"slices"
	"testing"

	"evermore/api"
	"evermore/tree"
)

// comb has so many nodes, an odd number: each parent's right child has no children.
func comb(many int) api.Tree {
	t := nodes(leaf(0))
	for n := 2; n < many; n += 2 {
		t.Nodes = append(t.Nodes, leaf(0), api.Node{Left: n - 2, Right: n - 1})
	}
	return t
}

// full has so many levels, each with twice as many nodes as that above it.
func full(levels int) api.Tree {
	if levels == 1 {
		return nodes(leaf(0))
	}
	return joined(0, full(levels-1), full(levels-1))
}

// L1: trees that are right.
func TestTrees(t *testing.T) {
	for name, x := range map[string]struct {
		letters int
		t       api.Tree
	}{
		"one node":               {1, nodes(leaf(0))},
		"the last of letters":    {4, nodes(leaf(3))},
		"three nodes":            {2, nodes(leaf(1), leaf(0), api.Node{Letter: 1, Left: 0, Right: 1})},
		"right ahead of left":    {2, nodes(leaf(1), leaf(0), api.Node{Letter: 1, Left: 1, Right: 0})},
		"leaves first":           {1, nodes(leaf(0), leaf(0), leaf(0), api.Node{Left: 1, Right: 2}, api.Node{Left: 3, Right: 0})},
		"59 nodes":               {1, comb(59)},
		"31 nodes, on 5 levels":  {3, full(5)},
		"a lone leaf comes late": {1, nodes(leaf(0), leaf(0), api.Node{Left: 0, Right: 1}, leaf(0), api.Node{Left: 3, Right: 2})},
	} {
		if e := tree.Tree(x.letters, x.t); e != api.OK {
			t.Errorf("%s: %v", name, e)
		}
	}
	x := dice(1)
	for i := range 2000 {
		if r := x.tree(1+i%4, 1+i%60/2*2); tree.Tree(1+i%4, r) != api.OK {
			t.Fatal(r)
		}
	}
}

type wrongTree struct {
	name    string
	letters int
	t       api.Tree
	want    api.Errno
}

func wrongTrees() []wrongTree {
	odd := api.Node{Letter: 2, Left: 0, Right: -1}
	return []wrongTree{
		{"no letters", 0, nodes(leaf(0)), api.ErrRange},
		{"fewer than no letters", -1, nodes(leaf(0)), api.ErrRange},
		{"five letters", 5, nodes(leaf(0)), api.ErrRange},
		{"very many letters", math.MaxInt, nodes(leaf(0)), api.ErrRange},
		{"letters ahead of size", 5, nodes(), api.ErrRange},
		{"letters ahead of shape", 0, nodes(odd), api.ErrRange},
		{"no nodes", 2, nodes(), api.ErrSize},
		{"no list of nodes", 2, api.Tree{}, api.ErrSize},
		{"61 nodes", 2, comb(61), api.ErrSize},
		{"very many nodes", 2, comb(100001), api.ErrSize},
		{"size ahead of a letter", 2, api.Tree{Nodes: slices.Repeat(nodes(leaf(2)).Nodes, 61)}, api.ErrSize},
		{"size ahead of shape", 2, api.Tree{Nodes: make([]api.Node, 61)}, api.ErrSize},
		{"60 nodes", 2, api.Tree{Nodes: append(comb(59).Nodes, leaf(0))}, api.ErrShape},
		{"a letter beyond", 2, nodes(leaf(2)), api.ErrRange},
		{"a letter below", 2, nodes(leaf(-1)), api.ErrRange},
		{"a letter far beyond", 4, nodes(leaf(math.MaxInt)), api.ErrRange},
		{"a letter far below", 4, nodes(leaf(math.MinInt)), api.ErrRange},
		{"a letter beyond at last", 1, nodes(leaf(0), leaf(0), api.Node{Letter: 1, Left: 0, Right: 1}), api.ErrRange},
		{"a letter ahead of its node's shape", 2, nodes(leaf(0), odd), api.ErrRange},
		{"a letter ahead of a later node's shape", 2, nodes(leaf(2), api.Node{Left: 0, Right: -1}), api.ErrRange},
		{"shape ahead of a later node's letter", 2, nodes(leaf(0), api.Node{Left: 0, Right: -1}, leaf(2)), api.ErrShape},
		{"a letter ahead of who is no child", 2, nodes(leaf(0), leaf(2)), api.ErrRange},
		{"a left child alone", 1, nodes(leaf(0), api.Node{Left: 0, Right: -1}), api.ErrShape},
		{"a right child alone", 1, nodes(leaf(0), api.Node{Left: -1, Right: 0}), api.ErrShape},
		{"zero", 1, nodes(api.Node{}), api.ErrShape},
		{"children below none", 1, nodes(api.Node{Left: -2, Right: -2}), api.ErrShape},
		{"none and below", 1, nodes(api.Node{Left: -1, Right: -2}), api.ErrShape},
		{"below and none", 1, nodes(api.Node{Left: -2, Right: -1}), api.ErrShape},
		{"children far below", 1, nodes(leaf(0), leaf(0), api.Node{Left: 0, Right: math.MinInt}), api.ErrShape},
		{"children far beyond", 1, nodes(leaf(0), leaf(0), api.Node{Left: math.MaxInt, Right: 1}), api.ErrShape},
		{"its own child", 1, nodes(leaf(0), leaf(0), api.Node{Left: 2, Right: 1}), api.ErrShape},
		{"a later one's parent", 1, nodes(leaf(0), api.Node{Left: 0, Right: 2}, leaf(0)), api.ErrShape},
		{"a child beyond all", 1, nodes(leaf(0), leaf(0), api.Node{Left: 0, Right: 3}), api.ErrShape},
		{"left and right are one", 1, nodes(leaf(0), api.Node{Left: 0, Right: 0}), api.ErrShape},
		{"two parents", 1, nodes(leaf(0), leaf(0), api.Node{Left: 0, Right: 1}, api.Node{Left: 2, Right: 1}), api.ErrShape},
		{"two trees", 1, nodes(leaf(0), leaf(0)), api.ErrShape},
		{"two trees, the one of three", 1, nodes(leaf(0), leaf(0), leaf(0), api.Node{Left: 1, Right: 2}), api.ErrShape},
		{"the root is not the last", 1, nodes(leaf(0), leaf(0), api.Node{Left: 0, Right: 1}, leaf(0)), api.ErrShape},
	}
}

// L1, L3: wrong trees, in the order of what is wrong.
func TestWrongTrees(t *testing.T) {
	for _, x := range wrongTrees() {
		if e := tree.Tree(x.letters, x.t); e != x.want {
			t.Errorf("%s: %v, not %v", x.name, e, x.want)
		}
		if x.letters < 1 || x.letters > 4 {
			continue
		}
		a := auto(x.letters, []int{1}, ruleSpace(x.letters, 1)...)
		if is, e := tree.Accepts(a, x.t); is || e != x.want {
			t.Errorf("%s: Accepts: %v, %v, not %v", x.name, is, e, x.want)
		}
	}
}

// L1: all lists of at most three nodes, with all children about, held against how often each node is a child.
func TestShapes(t *testing.T) {
	for many := 1; many <= 3; many++ {
		ways := 1
		for range 2 * many {
			ways *= 6
		}
		right := 0
		for way := range ways {
			var x api.Tree
			for range many {
				x.Nodes = append(x.Nodes, api.Node{Left: way%6 - 2, Right: way/6%6 - 2})
				way /= 36
			}
			want := api.ErrShape
			if isTree(x) {
				want = api.OK
				right++
			}
			if e := tree.Tree(1, x); e != want {
				t.Fatal(x, e, want)
			}
		}
		if right != []int{0, 1, 0, 2}[many] {
			t.Error(many, right)
		}
	}
}

func isTree(x api.Tree) bool {
	child := make([]int, len(x.Nodes))
	for i, n := range x.Nodes {
		if n == leaf(n.Letter) {
			continue
		}
		if min(n.Left, n.Right) < 0 || max(n.Left, n.Right) >= i {
			return false
		}
		child[n.Left]++
		child[n.Right]++
	}
	root := len(child) - 1
	return child[root] == 0 && slices.Equal(child[:root], slices.Repeat([]int{1}, root))
}

// right has three states and three letters.
func right() api.Trees {
	return auto(3, []int{0, 1, 0},
		api.Rule{Letter: 0, Left: -1, Right: -1, To: 0},
		api.Rule{Letter: 0, Left: -1, Right: -1, To: 2},
		api.Rule{Letter: 0, Left: 0, Right: 2, To: 1},
		api.Rule{Letter: 0, Left: 1, Right: 0, To: 0},
		api.Rule{Letter: 2, Left: 2, Right: 2, To: 2})
}

type wrongAuto struct {
	name   string
	change func(*api.Trees)
	want   api.Errno
}

// wrongAutos are changes of what right answers, and what L2 says of them.
func wrongAutos() []wrongAuto {
	many := func(letters, states, rules, marks int) func(*api.Trees) {
		return func(a *api.Trees) {
			*a = api.Trees{Letters: letters, States: states, Rules: make([]api.Rule, rules), Mark: make([]int, marks)}
		}
	}
	swap := func(i, j int) func(*api.Trees) {
		return func(a *api.Trees) { a.Rules[i], a.Rules[j] = a.Rules[j], a.Rules[i] }
	}
	return []wrongAuto{
		{"nothing", func(a *api.Trees) { *a = api.Trees{} }, api.ErrRange},
		{"no letters", func(a *api.Trees) { a.Letters = 0 }, api.ErrRange},
		{"fewer than no letters", func(a *api.Trees) { a.Letters = -1 }, api.ErrRange},
		{"five letters", func(a *api.Trees) { a.Letters = 5 }, api.ErrRange},
		{"letters ahead of states", many(5, 301, 0, 301), api.ErrRange},
		{"letters ahead of marks", func(a *api.Trees) { a.Letters, a.Mark = 5, nil }, api.ErrRange},
		{"letters ahead of shape", func(a *api.Trees) { a.Letters, a.Start = 0, 1 }, api.ErrRange},
		{"no states", many(2, 0, 0, 0), api.ErrSize},
		{"fewer than no states", func(a *api.Trees) { a.States = -1 }, api.ErrSize},
		{"far fewer states", func(a *api.Trees) { a.States = math.MinInt }, api.ErrSize},
		{"301 states", many(2, 301, 0, 301), api.ErrSize},
		{"very many states", func(a *api.Trees) { a.States = math.MaxInt }, api.ErrSize},
		{"40001 rules", many(4, 300, 40001, 300), api.ErrSize},
		{"a mark too few", func(a *api.Trees) { a.Mark = a.Mark[:2] }, api.ErrSize},
		{"a mark too many", func(a *api.Trees) { a.Mark = append(a.Mark, 0) }, api.ErrSize},
		{"no marks", func(a *api.Trees) { a.Mark = nil }, api.ErrSize},
		{"fewer states than marks", func(a *api.Trees) { a.States = 2 }, api.ErrSize},
		{"marks' number ahead of a rule", func(a *api.Trees) { a.Rules[0].To, a.Mark = 3, nil }, api.ErrSize},
		{"marks' number ahead of a mark", func(a *api.Trees) { a.Mark = []int{2, 2} }, api.ErrSize},
		{"marks' number ahead of shape", func(a *api.Trees) { a.Start, a.Mark = 1, nil }, api.ErrSize},
		{"rules' number ahead of a mark", func(a *api.Trees) { a.Rules, a.Mark[0] = make([]api.Rule, 40001), 2 }, api.ErrSize},
		{"a letter beyond", func(a *api.Trees) { a.Rules[4].Letter = 3 }, api.ErrRange},
		{"a letter below", func(a *api.Trees) { a.Rules[0].Letter = -1 }, api.ErrRange},
		{"a letter of four", func(a *api.Trees) { a.Letters = 2 }, api.ErrRange},
		{"To beyond", func(a *api.Trees) { a.Rules[4].To = 3 }, api.ErrRange},
		{"To below", func(a *api.Trees) { a.Rules[2].To = -1 }, api.ErrRange},
		{"To below, without children", func(a *api.Trees) { a.Rules[0].To = -1 }, api.ErrRange},
		{"To far beyond", func(a *api.Trees) { a.Rules[2].To = math.MaxInt }, api.ErrRange},
		{"left beyond", func(a *api.Trees) { a.Rules[4].Left = 3 }, api.ErrRange},
		{"left below", func(a *api.Trees) { a.Rules[0].Left = -2 }, api.ErrRange},
		{"right beyond", func(a *api.Trees) { a.Rules[4].Right = 3 }, api.ErrRange},
		{"right below", func(a *api.Trees) { a.Rules[0].Right = -2 }, api.ErrRange},
		{"both below", func(a *api.Trees) { a.Rules[0].Left, a.Rules[0].Right = -2, -2 }, api.ErrRange},
		{"right far below", func(a *api.Trees) { a.Rules[3].Right = math.MinInt }, api.ErrRange},
		{"left far beyond", func(a *api.Trees) { a.Rules[3].Left = math.MaxInt }, api.ErrRange},
		{"a left child alone", func(a *api.Trees) { a.Rules[3].Right = -1 }, api.ErrRange},
		{"a right child alone", func(a *api.Trees) { a.Rules[2].Left = -1 }, api.ErrRange},
		{"a mark of 2", func(a *api.Trees) { a.Mark[2] = 2 }, api.ErrRange},
		{"a mark below 0", func(a *api.Trees) { a.Mark[0] = -1 }, api.ErrRange},
		{"a late rule ahead of falling ones", func(a *api.Trees) { swap(0, 1)(a); a.Rules[4].To = 3 }, api.ErrRange},
		{"a mark ahead of falling rules", func(a *api.Trees) { swap(0, 1)(a); a.Mark[2] = 2 }, api.ErrRange},
		{"a mark ahead of Start", func(a *api.Trees) { a.Start, a.Mark[2] = 1, 2 }, api.ErrRange},
		{"a rule twice", func(a *api.Trees) { a.Rules[1] = a.Rules[0] }, api.ErrShape},
		{"a rule twice at last", func(a *api.Trees) { a.Rules[3] = a.Rules[4] }, api.ErrShape},
		{"falls by To", swap(0, 1), api.ErrShape},
		{"falls by left, from none", swap(1, 2), api.ErrShape},
		{"falls by left, though right and To rise", func(a *api.Trees) {
			a.Rules[2], a.Rules[3] = api.Rule{Left: 1, Right: 0, To: 0}, api.Rule{Left: 0, Right: 1, To: 1}
		}, api.ErrShape},
		{"falls by right, though To rises", func(a *api.Trees) {
			a.Rules[2], a.Rules[3] = api.Rule{Left: 1, Right: 1, To: 0}, api.Rule{Left: 1, Right: 0, To: 1}
		}, api.ErrShape},
		{"falls by letter, though all else rises", func(a *api.Trees) { a.Rules[3] = api.Rule{Letter: 2, Left: 2, Right: 1, To: 1}; a.Rules[4].Letter = 1 }, api.ErrShape},
		{"a start", func(a *api.Trees) { a.Start = 1 }, api.ErrShape},
		{"a start below 0", func(a *api.Trees) { a.Start = -1 }, api.ErrShape},
		{"a start beyond", func(a *api.Trees) { a.Start = math.MaxInt }, api.ErrShape},
		{"a start, no rules", func(a *api.Trees) { a.Start, a.Rules = 1, nil }, api.ErrShape},
	}
}

// L2, in the order of what is wrong; the other calls answer it, and nothing beside it.
func TestWrongAutos(t *testing.T) {
	other := func() api.Trees { return auto(4, []int{1, 1, 1, 1, 1, 1, 1}) }
	for _, x := range wrongAutos() {
		a := right()
		if e := tree.Check(a); e != api.OK {
			t.Fatal(e)
		}
		x.change(&a)
		if e := tree.Check(a); e != x.want {
			t.Errorf("%s: %v, not %v", x.name, e, x.want)
		}
		empty := func(call string, e api.Errno, answers ...any) {
			t.Helper()
			for _, y := range answers {
				if !reflect.ValueOf(y).IsZero() || e != x.want {
					t.Errorf("%s: %s answers %v, %v, not %v", x.name, call, y, e, x.want)
				}
			}
		}
		is, e := tree.Accepts(a, api.Tree{})
		empty("Accepts", e, is)
		s, is, e := tree.Some(a)
		empty("Some", e, s, is)
		o, e := tree.Other(a)
		empty("Other", e, o)
		s, is, e = tree.Within(a, other())
		empty("Within, of a", e, s, is)
		s, is, e = tree.Within(other(), a)
		empty("Within, of b", e, s, is)
	}
}

// L2: of two that are wrong the first one is told.
func TestFirstOfTwo(t *testing.T) {
	size, shape := right(), right()
	size.Mark, shape.Start = nil, 1
	if _, _, e := tree.Within(size, shape); e != api.ErrSize {
		t.Error(e)
	}
	if _, _, e := tree.Within(shape, size); e != api.ErrShape {
		t.Error(e)
	}
}

// L2: what is right, at the edges.
func TestRightAutos(t *testing.T) {
	for name, a := range map[string]api.Trees{
		"right":               right(),
		"no rules":            auto(1, []int{1}),
		"four letters":        auto(4, []int{0}, api.Rule{Letter: 3}),
		"300 states":          auto(1, make([]int, 300), api.Rule{Left: 299, Right: 299, To: 299}),
		"all rules of three":  auto(4, []int{1, 1, 1}, ruleSpace(4, 3)...),
		"40000 rules":         auto(4, make([]int, 300), ruleSpace(4, 24)[:40000]...),
		"letters rise alone":  auto(2, []int{1, 0}, api.Rule{Left: 1, Right: 1, To: 1}, api.Rule{Letter: 1}),
		"left rises alone":    auto(2, []int{1, 0}, api.Rule{Left: 0, Right: 1, To: 1}, api.Rule{Left: 1}),
		"right rises alone":   auto(2, []int{1, 0}, api.Rule{Right: 0, To: 1}, api.Rule{Right: 1}),
		"from none to a left": auto(2, []int{1, 0}, api.Rule{Left: -1, Right: -1, To: 1}, api.Rule{}),
	} {
		if e := tree.Check(a); e != api.OK {
			t.Errorf("%s: %v", name, e)
		}
		if _, e := tree.Accepts(a, nodes(leaf(0))); e != api.OK {
			t.Errorf("%s: Accepts: %v", name, e)
		}
		if _, _, e := tree.Some(a); e != api.OK {
			t.Errorf("%s: Some: %v", name, e)
		}
	}
}

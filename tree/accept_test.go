package tree_test

import (
	"slices"
	"testing"

	"evermore/api"
	"evermore/tree"
)

// even accepts trees with an even number of the letter 1.
func even() api.Trees {
	return auto(2, []int{1, 0},
		api.Rule{Letter: 0, Left: -1, Right: -1, To: 0}, api.Rule{Letter: 1, Left: -1, Right: -1, To: 1},
		api.Rule{Letter: 0, Left: 0, Right: 0, To: 0}, api.Rule{Letter: 1, Left: 0, Right: 0, To: 1},
		api.Rule{Letter: 0, Left: 0, Right: 1, To: 1}, api.Rule{Letter: 1, Left: 0, Right: 1, To: 0},
		api.Rule{Letter: 0, Left: 1, Right: 0, To: 1}, api.Rule{Letter: 1, Left: 1, Right: 0, To: 0},
		api.Rule{Letter: 0, Left: 1, Right: 1, To: 0}, api.Rule{Letter: 1, Left: 1, Right: 1, To: 1})
}

// guesses accepts trees of which some leaf has the letter 1: it is in the state 1 along the way to that leaf, and may
// be in 0 anywhere.
func guesses() api.Trees {
	rules := []api.Rule{{Letter: 0, Left: -1, Right: -1, To: 0}, {Letter: 1, Left: -1, Right: -1, To: 0}, {Letter: 1, Left: -1, Right: -1, To: 1}}
	for l := range 2 {
		rules = append(rules, api.Rule{Letter: l, Left: 0, Right: 0, To: 0},
			api.Rule{Letter: l, Left: 1, Right: 0, To: 1}, api.Rule{Letter: l, Left: 0, Right: 1, To: 1})
	}
	return auto(2, []int{0, 1}, rules...)
}

// L3, by hand.
func TestAccepts(t *testing.T) {
	three := func(left, right, root int) api.Tree {
		return nodes(leaf(left), leaf(right), api.Node{Letter: root, Left: 0, Right: 1})
	}
	turned := auto(2, []int{0, 0, 1}, api.Rule{Letter: 0, Left: -1, Right: -1, To: 0},
		api.Rule{Letter: 1, Left: -1, Right: -1, To: 1}, api.Rule{Letter: 0, Left: 0, Right: 1, To: 2})
	for _, x := range []struct {
		name string
		a    api.Trees
		t    api.Tree
		is   bool
	}{
		{"no letter 1", even(), nodes(leaf(0)), true},
		{"one", even(), nodes(leaf(1)), false},
		{"two", even(), three(1, 0, 1), true},
		{"three", even(), three(1, 1, 1), false},
		{"a leaf of 1", guesses(), nodes(leaf(1)), true},
		{"a leaf of 0", guesses(), nodes(leaf(0)), false},
		{"a left one of 1", guesses(), three(1, 0, 0), true},
		{"a right one of 1", guesses(), three(0, 1, 0), true},
		{"both of 1", guesses(), three(1, 1, 0), true},
		{"none but the root", guesses(), three(0, 0, 1), false},
		{"left and right", turned, three(0, 1, 0), true},
		{"right and left", turned, three(1, 0, 0), false},
		{"right has the lower number", turned, nodes(leaf(1), leaf(0), api.Node{Left: 1, Right: 0}), true},
		{"left has it", turned, nodes(leaf(0), leaf(1), api.Node{Left: 1, Right: 0}), false},
		{"another letter", turned, three(0, 1, 1), false},
		{"a mark below the root does not help", auto(1, []int{1, 0}, api.Rule{Left: -1, Right: -1, To: 0}, api.Rule{To: 1}), three(0, 0, 0), false},
		{"no rules", auto(1, []int{1}), nodes(leaf(0)), false},
		{"no marks", auto(1, []int{0}, ruleSpace(1, 1)...), nodes(leaf(0)), false},
		{"no leaves", auto(1, []int{1}, api.Rule{}), three(0, 0, 0), false},
		{"leaves alone", auto(1, []int{1}, api.Rule{Left: -1, Right: -1}), three(0, 0, 0), false},
		{"one of two states below", auto(1, []int{0, 0, 1}, api.Rule{Left: -1, Right: -1, To: 0}, api.Rule{Left: -1, Right: -1, To: 1},
			api.Rule{Left: 1, Right: 0, To: 2}), three(0, 0, 0), true},
		{"59 nodes", auto(1, []int{1}, ruleSpace(1, 1)...), comb(59), true},
	} {
		if is, e := tree.Accepts(x.a, x.t); is != x.is || e != api.OK {
			t.Errorf("%s: %v, %v", x.name, is, e)
		}
	}
}

// L3: what Tree says is said with a's letters.
func TestAcceptsLetters(t *testing.T) {
	for letters := 1; letters <= 4; letters++ {
		a := auto(letters, []int{1}, ruleSpace(letters, 1)...)
		if is, e := tree.Accepts(a, nodes(leaf(letters-1))); !is || e != api.OK {
			t.Error(letters, is, e)
		}
		if is, e := tree.Accepts(a, nodes(leaf(letters))); is || e != api.ErrRange {
			t.Error(letters, is, e)
		}
	}
}

func tryAccepts(t *testing.T, a api.Trees, x api.Tree, want bool) {
	t.Helper()
	if is, e := tree.Accepts(a, x); is != want || e != api.OK {
		t.Fatal(a, x, is, e)
	}
}

// L3: all small automata, of all small trees, held against all the ways to give states.
func TestAcceptsSmall(t *testing.T) {
	one, two := upTo(1, 7), upTo(2, 5)
	automata(1, 2, func(a api.Trees) {
		for _, x := range one {
			tryAccepts(t, a, x, given(a, x))
		}
	})
	automata(2, 1, func(a api.Trees) {
		for _, x := range two {
			tryAccepts(t, a, x, given(a, x))
		}
	})
	d, many := dice(2), [2]int{}
	for range 300 {
		a := d.auto(2, 3, 10+d.roll(20))
		for _, x := range two {
			want := given(a, x)
			if want != accepted(a, x) {
				t.Fatal("the judges are not at one:", a, x)
			}
			tryAccepts(t, a, x, want)
			many[bit(want)]++
		}
	}
	if min(many[0], many[1]) < 3000 {
		t.Error("nearly all are alike:", many)
	}
}

func bit(is bool) int {
	if is {
		return 1
	}
	return 0
}

// L3: greater ones, with nodes in any order.
func TestAcceptsGreater(t *testing.T) {
	d, many := dice(3), [2]int{}
	for i := range 3000 {
		letters, states := 1+i%4, 1+d.roll(12)
		a := d.auto(letters, states, 1+d.roll(200/states))
		x := d.tree(letters, 1+2*d.roll(30))
		want := accepted(a, x)
		tryAccepts(t, a, x, want)
		many[bit(want)]++
	}
	if min(many[0], many[1]) < 500 {
		t.Error("nearly all are alike:", many)
	}
}

// L3: 300 states, 40000 rules.
func TestAcceptsLargest(t *testing.T) {
	chain := combs(299)
	chain.Rules = inOrder(append(chain.Rules, ruleSpace(1, 35)[:40000-300]...))
	if len(chain.Rules) < 39000 {
		t.Fatal(len(chain.Rules))
	}
	for many := 1; many < 60; many += 2 {
		tryAccepts(t, chain, comb(many), accepted(chain, comb(many)))
	}
}

// combs accepts the comb of so many inner nodes alone: a state for each number of them.
func combs(inner int) api.Trees {
	a := auto(1, make([]int, inner+1), api.Rule{Left: -1, Right: -1})
	for s := range inner {
		a.Rules = append(a.Rules, api.Rule{Left: s, Right: 0, To: s + 1})
	}
	a.Mark[inner] = 1
	return a
}

// doubling accepts the full tree of so many levels alone.
func doubling(levels int) api.Trees {
	a := auto(1, make([]int, levels), api.Rule{Left: -1, Right: -1})
	for s := range levels - 1 {
		a.Rules = append(a.Rules, api.Rule{Left: s, Right: s, To: s + 1})
	}
	a.Mark[levels-1] = 1
	return a
}

// L4, by hand: how few nodes.
func TestSome(t *testing.T) {
	for _, x := range []struct {
		name string
		a    api.Trees
		many int
	}{
		{"a leaf", even(), 1},
		{"a leaf of the last letter", auto(4, []int{1}, api.Rule{Letter: 3, Left: -1, Right: -1}), 1},
		{"no rules", auto(1, []int{1}), 0},
		{"no marks", auto(2, []int{0, 0}, ruleSpace(2, 2)...), 0},
		{"no leaves", auto(2, []int{1}, api.Rule{}, api.Rule{Letter: 1}), 0},
		{"a state that needs itself", auto(1, []int{0, 1}, api.Rule{Left: -1, Right: -1}, api.Rule{Left: 0, Right: 1, To: 1}), 0},
		{"two states that need each other", auto(1, []int{0, 1, 1}, api.Rule{Left: -1, Right: -1},
			api.Rule{Left: 0, Right: 1, To: 2}, api.Rule{Left: 0, Right: 2, To: 1}), 0},
		{"the child on one side never comes", auto(1, []int{0, 1, 0}, api.Rule{Left: -1, Right: -1}, api.Rule{Left: 0, Right: 2, To: 1}), 0},
		{"three", auto(1, []int{0, 1}, api.Rule{Left: -1, Right: -1}, api.Rule{To: 1}), 3},
		{"the second of two marks", auto(1, []int{0, 0, 1, 1}, api.Rule{Left: -1, Right: -1}, api.Rule{To: 1},
			api.Rule{Left: 1, Right: 1, To: 2}, api.Rule{Left: 1, Right: 0, To: 3}), 5},
		{"a later rule is better", auto(2, []int{0, 0, 0, 1}, api.Rule{Left: -1, Right: -1}, api.Rule{To: 1},
			api.Rule{Left: 1, Right: 1, To: 2}, api.Rule{Left: 2, Right: 2, To: 3}, api.Rule{Letter: 1, To: 2}), 7},
		{"59", combs(29), 59},
		{"61", combs(30), 0},
		{"599", combs(299), 0},
		{"31", doubling(5), 31},
		{"63", doubling(6), 0},
		{"more than an int can count", doubling(300), 0},
		{"as many, about 0 in an int", doubling(65), 0},
	} {
		if n := trySome(t, x.a); n != x.many {
			t.Errorf("%s: %d", x.name, n)
		}
	}
}

// L4: a tree of few nodes beside one that is far too large.
func TestSomeBesideLarge(t *testing.T) {
	for levels := 2; levels <= 299; levels++ {
		a := doubling(levels)
		a.States++
		a.Mark = append(a.Mark, 1)
		a.Rules = inOrder(append(a.Rules, api.Rule{Left: min(levels-1, 3), Right: 0, To: levels}))
		if n := trySome(t, a); n != min(1<<min(levels, 5)-1, 17) {
			t.Error(levels, n)
		}
	}
}

// L4: all small automata, held against all numbers of nodes.
func TestSomeSmall(t *testing.T) {
	automata(1, 2, func(a api.Trees) { trySome(t, a) })
	automata(4, 1, func(a api.Trees) { trySome(t, a) })
}

// L4: greater ones, with few rules, that need many nodes.
func TestSomeGreater(t *testing.T) {
	d := dice(4)
	var many [61]int
	for i := range 6000 {
		states := 2 + d.roll(30)
		a := api.Trees{Letters: 1 + i%4, States: states, Mark: make([]int, states)}
		a.Mark[d.roll(states)] = 1
		a.Rules = append(a.Rules, api.Rule{Letter: d.roll(a.Letters), Left: -1, Right: -1, To: d.roll(states)})
		for range states + d.roll(2*states) {
			a.Rules = append(a.Rules, api.Rule{Letter: d.roll(a.Letters), Left: d.roll(states), Right: d.roll(states), To: d.roll(states)})
		}
		a.Rules = inOrder(a.Rules)
		many[trySome(t, a)]++
	}
	for n := 1; n < 20; n += 2 {
		if many[n] == 0 {
			t.Error("no tree of nodes:", n)
		}
	}
}

// L4: automata that are changed, bit by bit, so that their smallest trees become large, up to and beyond MaxTree.
func TestSomeChanged(t *testing.T) {
	d, most := dice(5), 0
	for range 12 {
		a, now := d.auto(1, 8, 2), 0
		for range 1500 {
			b := d.changed(a)
			if n := trySome(t, b); n >= now {
				a, now = b, n
			}
		}
		most = max(most, now)
	}
	if most < 45 {
		t.Error("no large tree:", most)
	}
}

// P1, L4: states that come one by one, from the last rule to the first, among as many rules as there may be.
func TestSomeSlowest(t *testing.T) {
	const states = 300
	a := auto(1, make([]int, states), api.Rule{Left: -1, Right: -1, To: states - 1})
	a.Mark[0] = 1
	for s := 1; s < states; s++ {
		a.Rules = append(a.Rules, api.Rule{Left: s, Right: s, To: s - 1})
	}
	for s := 0; len(a.Rules) < 40000; s++ {
		a.Rules = append(a.Rules, api.Rule{Left: 0, Right: s / states, To: s % states})
	}
	a.Rules = inOrder(a.Rules)
	if x, some, e := tree.Some(a); some || e != api.OK || len(x.Nodes) != 0 {
		t.Error(x, some, e)
	}
	a.Mark[states-5] = 1
	if x, some, e := tree.Some(a); !some || e != api.OK || len(x.Nodes) != 31 {
		t.Error(x, some, e)
	}
}

// P3: what is handed in is left as it is, and what comes out shares memory with nothing.
func TestMemory(t *testing.T) {
	roomy := func(a api.Trees) api.Trees {
		a.Rules = append(a.Rules, api.Rule{Letter: 9, Left: 9, Right: 9, To: 9})[:len(a.Rules)]
		a.Mark = append(a.Mark, 9)[:len(a.Mark)]
		return a
	}
	same := func(a, b api.Trees) bool {
		return a.Letters == b.Letters && a.States == b.States && a.Start == b.Start &&
			slices.Equal(a.Rules[:len(a.Rules)+1], b.Rules[:len(b.Rules)+1]) &&
			slices.Equal(a.Mark[:len(a.Mark)+1], b.Mark[:len(b.Mark)+1])
	}
	a, b, x := roomy(even()), roomy(guesses()), append(full(3).Nodes, leaf(9))
	tree.Check(a)
	tree.Tree(2, nodes(x[:7]...))
	tree.Accepts(a, nodes(x[:7]...))
	s, _, _ := tree.Some(a)
	o, _ := tree.Other(a)
	w, _, _ := tree.Within(a, b)
	if len(s.Nodes) == 0 || len(o.Rules) == 0 || len(w.Nodes) == 0 {
		t.Fatal(s, o, w)
	}
	s.Nodes[0], w.Nodes[0], o.Rules[0], o.Mark[0] = leaf(7), leaf(7), api.Rule{Letter: 7}, 7
	s.Nodes, w.Nodes = append(s.Nodes, leaf(8)), append(w.Nodes, leaf(8))
	o.Rules, o.Mark = append(o.Rules, api.Rule{Letter: 8}), append(o.Mark, 8)
	if !same(a, roomy(even())) || !same(b, roomy(guesses())) || !slices.Equal(x, append(full(3).Nodes, leaf(9))) {
		t.Error("what is handed in is changed:", a, b, x)
	}
	if n := trySome(t, a); n != 1 {
		t.Error(n)
	}
	tryOther(t, a)
	tryWithin(t, a, b)
}

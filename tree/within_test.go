package tree_test

import (
	"reflect"
	"testing"

	"evermore/api"
	"evermore/tree"
)

// L5, by hand.
func TestOther(t *testing.T) {
	for name, a := range map[string]api.Trees{
		"even":                even(),
		"guesses":             guesses(),
		"no rules":            auto(1, []int{1}),
		"no rules, 6 states":  auto(2, make([]int, 6)),
		"no marks":            auto(2, []int{0, 0}, ruleSpace(2, 2)...),
		"all trees":           auto(2, []int{1}, ruleSpace(2, 1)...),
		"all, by 6 states":    auto(2, []int{0, 0, 0, 0, 0, 1}, ruleSpace(2, 6)...),
		"leaves alone":        auto(2, []int{1}, api.Rule{Letter: 1, Left: -1, Right: -1}),
		"no leaves":           auto(2, []int{1}, api.Rule{Letter: 1}),
		"one of a full shape": doubling(6),
		"one comb":            combs(5),
		"all sets":            manySets(),
	} {
		o := tryOther(t, a)
		for _, x := range upTo(a.Letters, 7) {
			if is, e := tree.Accepts(o, x); is == accepted(a, x) || e != api.OK {
				t.Errorf("%s: %v: %v, %v", name, x, is, e)
			}
		}
	}
}

// manySets leads, by its left children, from each set of six states to another one, until all have come: by the letter
// 0 each state goes to the one behind it; by 1 each but 0 stays, or goes to 0.
func manySets() api.Trees {
	rules := []api.Rule{{Left: -1, Right: -1}, {Letter: 1, Left: -1, Right: -1}}
	for s := range 6 {
		for right := range 6 {
			rules = append(rules, api.Rule{Letter: 0, Left: s, Right: right, To: (s + 1) % 6})
			if s > 0 {
				rules = append(rules, api.Rule{Letter: 1, Left: s, Right: right, To: s}, api.Rule{Letter: 1, Left: s, Right: right, To: 0})
			}
		}
	}
	return auto(2, []int{0, 0, 1, 0, 1, 0}, rules...)
}

// L5: all sets that there are come, and have a state; that is no more than Check lets pass.
func TestOtherOfAllSets(t *testing.T) {
	if o := tryOther(t, manySets()); o.States != 64 || len(o.Rules) != 2*(64*64+1) {
		t.Error(o.States, len(o.Rules))
	}
}

// L5: all small automata, of all trees.
func TestOtherSmall(t *testing.T) {
	automata(1, 2, func(a api.Trees) { tryOther(t, a) })
	automata(2, 1, func(a api.Trees) { tryOther(t, a) })
}

// L5: greater ones, of all trees; and trees of many nodes.
func TestOtherGreater(t *testing.T) {
	d, most := dice(6), 0
	for i := range 400 {
		a := d.auto(1+i%2, 2+d.roll(5), 2+d.roll(25))
		o := tryOther(t, a)
		most = max(most, o.States)
		for range 10 {
			x := d.tree(a.Letters, 1+2*d.roll(30))
			tryAccepts(t, o, x, !accepted(a, x))
		}
	}
	if most < 30 {
		t.Error("few sets come:", most)
	}
}

// L5: the others of the others are the first ones again.
func TestOtherTwice(t *testing.T) {
	d, twice := dice(7), 0
	for range 400 {
		a := d.auto(2, 1+d.roll(3), 10+d.roll(20))
		o := tryOther(t, a)
		if o.States > 6 {
			continue
		}
		twice++
		again := tryOther(t, o)
		for _, x := range twins(a, again) {
			if x.by[0].accepts(a) != x.by[1].accepts(again) {
				t.Fatal(a, o, again)
			}
		}
	}
	if twice < 100 {
		t.Error(twice)
	}
}

// L5: what is too large, behind what Check says.
func TestOtherRefuses(t *testing.T) {
	for _, x := range []struct {
		name string
		a    api.Trees
		want api.Errno
	}{
		{"6 states, 2 letters", auto(2, make([]int, 6)), api.OK},
		{"7 states", auto(1, make([]int, 7)), api.ErrSize},
		{"300 states", auto(2, make([]int, 300)), api.ErrSize},
		{"3 letters", auto(3, []int{1}), api.ErrSize},
		{"4 letters, 7 states", auto(4, make([]int, 7)), api.ErrSize},
		{"Check's ahead: 5 letters", auto(5, make([]int, 7)), api.ErrRange},
		{"Check's ahead: a mark", auto(3, []int{2}), api.ErrRange},
		{"Check's ahead: Start", api.Trees{Letters: 3, States: 1, Start: 1, Mark: []int{0}}, api.ErrShape},
	} {
		o, e := tree.Other(x.a)
		if e != x.want || e != api.OK && !reflect.DeepEqual(o, api.Trees{}) {
			t.Errorf("%s: %v, %v, not %v", x.name, o, e, x.want)
		}
	}
}

// waysOf accepts trees in which all ways down, counted by their steps, leave such a rest, divided by so many.
func waysOf(rest, by int) api.Trees {
	a := auto(1, make([]int, by), api.Rule{Left: -1, Right: -1})
	for s := range by {
		a.Rules = append(a.Rules, api.Rule{Left: s, Right: s, To: (s + 1) % by})
	}
	a.Mark[rest] = 1
	return a
}

// someWay accepts trees in which some way down has an odd number of steps, or an even one (rest 0). The state 2 is that
// of any tree.
func someWay(rest int) api.Trees {
	a := auto(1, make([]int, 3), api.Rule{Left: -1, Right: -1, To: 0}, api.Rule{Left: -1, Right: -1, To: 2},
		api.Rule{Left: 0, Right: 2, To: 1}, api.Rule{Left: 1, Right: 2, To: 0},
		api.Rule{Left: 2, Right: 0, To: 1}, api.Rule{Left: 2, Right: 1, To: 0},
		api.Rule{Left: 2, Right: 2, To: 2})
	a.Mark[rest] = 1
	return a
}

// L6, by hand: how few nodes a tree outside has; large: there is none.
func TestWithin(t *testing.T) {
	all, none := auto(2, []int{1}, ruleSpace(2, 1)...), auto(2, []int{1})
	allOfOne, noneOfOne := auto(1, []int{1}, ruleSpace(1, 1)...), auto(1, []int{0})
	odd := even()
	odd.Mark = []int{0, 1}
	// Of 3 states each, with 59 and 61 nodes as the fewest: come upon by a search.
	edge59 := [2]api.Trees{
		auto(1, []int{0, 1, 0}, api.Rule{Left: -1, Right: -1}, api.Rule{To: 1}, api.Rule{Left: 1, Right: 1, To: 2}, api.Rule{Left: 2, Right: 2}),
		auto(1, []int{1, 0, 1}, api.Rule{Left: -1, Right: -1}, api.Rule{Left: -1, Right: -1, To: 1}, api.Rule{To: 2}, api.Rule{Left: 1, Right: 1},
			api.Rule{Left: 1, Right: 2, To: 2}, api.Rule{Left: 2, Right: 1}, api.Rule{Left: 2, Right: 2})}
	edge61 := [2]api.Trees{
		auto(1, []int{0, 1, 1}, api.Rule{Left: -1, Right: -1, To: 1}, api.Rule{Left: 0, Right: 2, To: 1}, api.Rule{Left: 1, Right: 1, To: 2}, api.Rule{Left: 2, Right: 2}),
		auto(1, []int{1, 1, 1}, api.Rule{Left: -1, Right: -1}, api.Rule{Left: -1, Right: -1, To: 2}, api.Rule{To: 1}, api.Rule{Right: 1, To: 2},
			api.Rule{Right: 2}, api.Rule{Left: 1, To: 1}, api.Rule{Left: 2, Right: 1})}
	for _, x := range []struct {
		name string
		a, b api.Trees
		many int
	}{
		{"itself", even(), even(), large},
		{"itself, with guesses", guesses(), guesses(), large},
		{"the others", even(), odd, 1},
		{"the others' others", odd, even(), 1},
		{"all in one", all, even(), 1},
		{"one in all", even(), all, large},
		{"none in one", none, even(), large},
		{"one in none", guesses(), none, 1},
		{"none in none", none, none, large},
		{"a leaf of 1, and an even number", guesses(), even(), 1},
		{"an even number, and a leaf of 1", even(), guesses(), 1},
		{"full ones in all", doubling(3), allOfOne, large},
		{"7 nodes", doubling(3), noneOfOne, 7},
		{"full ones are ways of a number", doubling(3), waysOf(2, 3), large},
		{"ways of a number are more than full ones", waysOf(2, 3), doubling(3), 21},
		{"ways of 0 steps are even", waysOf(0, 3), someWay(1), 1},
		{"ways of 3 steps are odd", waysOf(0, 3), someWay(0), 15},
		{"ways of 4 steps are even", waysOf(1, 3), someWay(1), 31},
		{"ways of 5 steps are odd", waysOf(2, 3), someWay(0), 63},
		{"even ways are even", waysOf(0, 2), someWay(0), large},
		{"59 nodes", edge59[0], edge59[1], 59},
		{"61 nodes", edge61[0], edge61[1], 61},
	} {
		if n := tryWithin(t, x.a, x.b); n != x.many {
			t.Errorf("%s: %d", x.name, n)
		}
	}
}

// L6: all small automata.
func TestWithinSmall(t *testing.T) {
	for letters := 1; letters <= 2; letters++ {
		var row []api.Trees
		automata(letters, 1, func(a api.Trees) { row = append(row, a) })
		for _, a := range row {
			for _, b := range row {
				tryWithin(t, a, b)
			}
		}
	}
}

// L6: greater ones, of each size.
func TestWithinGreater(t *testing.T) {
	d := dice(8)
	within, outside := 0, 0
	for i := range 8000 {
		letters := 1 + i%2
		a, b := d.auto(letters, 1+d.roll(3), 5+d.roll(30)), d.auto(letters, 1+d.roll(3), 5+d.roll(50))
		switch tryWithin(t, a, b) {
		case large:
			within++
		case 1:
		default:
			outside++
		}
	}
	if min(within, outside) < 500 {
		t.Error("nearly all are alike:", within, outside)
	}
}

// L6: b is a, with more rules: so each tree that a accepts b accepts.
func TestWithinMore(t *testing.T) {
	d := dice(9)
	for range 500 {
		a := d.auto(2, 3, 10+d.roll(20))
		b := d.auto(2, 3, 10)
		b.Rules, b.Mark = inOrder(append(b.Rules, a.Rules...)), a.Mark
		if n := tryWithin(t, a, b); n != large {
			t.Fatal(a, b, n)
		}
	}
}

// L6: automata that are changed, bit by bit, so that the smallest trees outside become large, up to and beyond MaxTree.
func TestWithinChanged(t *testing.T) {
	d := dice(10)
	full, most := 0, 0
	for range 12 {
		a, b, now := d.auto(2, 3, 15), d.auto(2, 3, 30), 0
		for range 1000 {
			x, y := a, b
			if d.roll(2) == 0 {
				x = d.changed(a)
			} else {
				y = d.changed(b)
			}
			n := tryWithin(t, x, y)
			if n < large && n >= now {
				a, b, now = x, y, n
			}
			if n < large && n > 60 {
				full++
			} else if n < large {
				most = max(most, n)
			}
		}
	}
	if full < 100 || most < 51 {
		t.Error("no large trees:", full, most)
	}
}

// L6: what is wrong with two, behind what Check says of both, in its order.
func TestWithinRefuses(t *testing.T) {
	small := func(letters, states int) api.Trees { return auto(letters, make([]int, states)) }
	for _, x := range []struct {
		name string
		a, b api.Trees
		want api.Errno
	}{
		{"3 states, 2 letters", small(2, 3), small(2, 3), api.OK},
		{"other letters", small(1, 1), small(2, 1), api.ErrShape},
		{"other letters, the other way", small(2, 3), small(1, 3), api.ErrShape},
		{"other letters ahead of states", small(1, 4), small(2, 4), api.ErrShape},
		{"other letters ahead of letters", small(3, 1), small(4, 1), api.ErrShape},
		{"4 states of a", small(2, 4), small(2, 1), api.ErrSize},
		{"4 states of b", small(2, 1), small(2, 4), api.ErrSize},
		{"300 states", small(1, 300), small(1, 300), api.ErrSize},
		{"3 letters", small(3, 1), small(3, 1), api.ErrSize},
		{"4 letters, 4 states", small(4, 4), small(4, 4), api.ErrSize},
		{"Check's of b ahead of other letters", small(1, 1), auto(2, []int{2}), api.ErrRange},
		{"Check's of b ahead of states", small(1, 4), api.Trees{Letters: 1, States: 1, Start: 1, Mark: []int{0}}, api.ErrShape},
		{"Check's of a ahead of other letters", auto(2, []int{2}), small(1, 1), api.ErrRange},
	} {
		w, within, e := tree.Within(x.a, x.b)
		if e != x.want || e != api.OK && (within || len(w.Nodes) != 0) {
			t.Errorf("%s: %v, %v, %v, not %v", x.name, w, within, e, x.want)
		}
	}
}

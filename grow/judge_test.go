package grow_test

import (
	"cmp"
	"fmt"
	"slices"
	"testing"

	"evermore/api"
	"evermore/grow"
)

// auto puts rules in order; its start is 0.
func auto(letters int, mark []int, rules ...api.Rule) api.Trees {
	return api.Trees{Letters: letters, States: len(mark), Rules: inOrder(rules), Mark: mark}
}

func from(start int, a api.Trees) api.Trees {
	a.Start = start
	return a
}

func inOrder(rules []api.Rule) []api.Rule {
	slices.SortFunc(rules, func(x, y api.Rule) int {
		return cmp.Or(x.Letter-y.Letter, x.Left-y.Left, x.Right-y.Right, x.To-y.To)
	})
	return slices.Compact(rules)
}

// ruleSpace has all rules that there can be, in order.
func ruleSpace(letters, states int) []api.Rule {
	var out []api.Rule
	for n := range letters * states * states * states {
		out = append(out, api.Rule{Letter: n / states / states / states, Left: n / states / states % states, Right: n / states % states, To: n % states})
	}
	return out
}

// loops tells whether one can come from the start to a loop whose least mark, divided by two, leaves that.
func loops(onward [][]int, marks []int, start, rest int) bool {
	for _, p := range come(onward, []int{start}, func(int) bool { return true }) {
		high := func(q int) bool { return marks[q] >= marks[p] }
		if marks[p]%2 == rest && slices.Contains(come(onward, onward[p], high), p) {
			return true
		}
	}
	return false
}

// come answers what can be come to from some places on, by such as may be.
func come(onward [][]int, starts []int, may func(int) bool) []int {
	var row []int
	see := func(list []int) {
		for _, p := range list {
			if may(p) && !slices.Contains(row, p) {
				row = append(row, p)
			}
		}
	}
	see(starts)
	for i := 0; i < len(row); i++ {
		see(onward[row[i]])
	}
	return row
}

// judgeTree holds a tree against M2, and answers what is wrong with it.
func judgeTree(a api.Trees, g api.Grown) string {
	n := len(g.State)
	if n < 1 || n > api.MaxGame || len(g.Letter) != n || len(g.Left) != n || len(g.Right) != n {
		return "not as many numbers, or too few, or too many"
	}
	isPlace := func(p int) bool { return 0 <= p && p < n }
	onward, marks := make([][]int, n), make([]int, n)
	for p := range n {
		if !isPlace(g.Left[p]) || !isPlace(g.Right[p]) {
			return fmt.Sprint("no place is below ", p)
		}
		onward[p] = []int{g.Left[p], g.Right[p]}
		r := api.Rule{Letter: g.Letter[p], Left: g.State[g.Left[p]], Right: g.State[g.Right[p]], To: g.State[p]}
		if !slices.Contains(a.Rules, r) {
			return fmt.Sprint("no rule: ", r)
		}
		marks[p] = a.Mark[g.State[p]]
	}
	if g.State[0] != a.Start {
		return "the root is not in the state Start"
	}
	if loops(onward, marks, 0, 1) {
		return "the least mark along a way is odd"
	}
	return ""
}

// judgeWays holds ways against M3, and answers what is wrong with them.
func judgeWays(a api.Trees, ways []int) string {
	if len(ways) != len(a.Rules) {
		return "not as many ways as rules"
	}
	onward := make([][]int, a.States)
	for i, r := range a.Rules {
		if ways[i] != 0 && ways[i] != 1 {
			return fmt.Sprint("no way: ", ways[i])
		}
		onward[r.To] = append(onward[r.To], down(r, ways[i]))
	}
	if loops(onward, a.Mark, a.Start, 0) {
		return "the least mark can be even"
	}
	return ""
}

func down(r api.Rule, way int) int {
	return [2]int{r.Left, r.Right}[way]
}

// try asks both of an automaton that is right, and answers whether a tree is accepted. Where nothing is wrong with
// what is answered, the tree, or the ways, tell by themselves that can is right.
func try(t *testing.T, a api.Trees) (api.Grown, []int, bool) {
	t.Helper()
	g, can, e := grow.Grow(a)
	ways, bars, f := grow.Bar(a)
	if grow.Check(a) != api.OK || e != api.OK || f != api.OK {
		t.Fatal(a, grow.Check(a), e, f)
	}
	if can == bars {
		t.Fatal(a, "neither, or both:", g, ways)
	}
	if can && len(ways) > 0 || bars && !isZero(g) {
		t.Fatal(a, "more than is asked for:", g, ways)
	}
	wrong := ""
	if can {
		wrong = judgeTree(a, g)
	} else {
		wrong = judgeWays(a, ways)
	}
	if wrong != "" {
		t.Fatal(a, g, ways, wrong)
	}
	return g, ways, can
}

func isZero(g api.Grown) bool {
	return len(g.Letter)+len(g.State)+len(g.Left)+len(g.Right) == 0
}

// planted is the tree of one rule a state, a place for each state; the start's comes first. There is none where the
// start, or a state that comes, has no rule (-1).
func planted(a api.Trees, chosen []int) (api.Grown, bool) {
	g, row := api.Grown{}, []int{a.Start}
	for i := 0; i < len(row); i++ {
		if chosen[row[i]] < 0 {
			return api.Grown{}, false
		}
		r := a.Rules[chosen[row[i]]]
		for _, s := range []int{r.Left, r.Right} {
			if !slices.Contains(row, s) {
				row = append(row, s)
			}
		}
		g.Letter, g.State = append(g.Letter, r.Letter), append(g.State, row[i])
		g.Left, g.Right = append(g.Left, slices.Index(row, r.Left)), append(g.Right, slices.Index(row, r.Right))
	}
	return g, true
}

// someTree tells whether any choice of one rule a state makes a tree that is accepted.
func someTree(a api.Trees) bool {
	chosen := slices.Repeat([]int{-1}, a.States)
	var choose func(s int) bool
	choose = func(s int) bool {
		if s == a.States {
			g, is := planted(a, chosen)
			return is && judgeTree(a, g) == ""
		}
		some, ruled := false, false
		for i, r := range a.Rules {
			if r.To == s && !some {
				chosen[s], ruled = i, true
				some = choose(s + 1)
			}
		}
		return some || !ruled && choose(s+1)
	}
	return choose(0)
}

// someWays tells whether any ways bar all trees.
func someWays(a api.Trees) bool {
	for n := range 1 << len(a.Rules) {
		var ways []int
		for i := range a.Rules {
			ways = append(ways, n>>i&1)
		}
		if judgeWays(a, ways) == "" {
			return true
		}
	}
	return false
}

// follow goes on from a place, by turns that come again and again, and answers the least mark that does; or 1 where
// it cannot go on (-1).
func follow(place int, turns []int, mark func(place int) int, next func(place, turn int) int) int {
	at := map[[2]int]int{}
	var marks []int
	for i := 0; place >= 0; i++ {
		here := [2]int{place, i % len(turns)}
		if first, again := at[here]; again {
			return slices.Min(marks[first:])
		}
		at[here] = i
		marks = append(marks, mark(place))
		place = next(place, turns[here[1]])
	}
	return 1
}

// walk goes down a tree, at each turn left or right, by the words of M1.
func walk(a api.Trees, g api.Grown, turns []int) int {
	mark := func(p int) int { return a.Mark[g.State[p]] }
	return follow(0, turns, mark, func(p, turn int) int { return [2]int{g.Left[p], g.Right[p]}[turn] })
}

// descend goes down from the start by the ways, at each turn by some rule, by the words of M3.
func descend(a api.Trees, ways, turns []int) int {
	mark := func(s int) int { return a.Mark[s] }
	return follow(a.Start, turns, mark, func(s, turn int) int {
		var below []int
		for i, r := range a.Rules {
			if r.To == s {
				below = append(below, down(r, ways[i]))
			}
		}
		if len(below) == 0 {
			return -1
		}
		return below[turn%len(below)]
	})
}

// dice is a row of numbers that looks like chance, and is the same each time.
type dice uint32

func (x *dice) roll(n int) int {
	*x = *x*1664525 + 1013904223
	return int(*x>>8) % n
}

func (x *dice) row(many, below int) []int {
	var out []int
	for range many {
		out = append(out, x.roll(below))
	}
	return out
}

func (x *dice) rule(letters, states int) api.Rule {
	return api.Rule{Letter: x.roll(letters), Left: x.roll(states), Right: x.roll(states), To: x.roll(states)}
}

// auto has up to so many rules.
func (x *dice) auto(letters, states, rules, marks int) api.Trees {
	var list []api.Rule
	for range rules {
		list = append(list, x.rule(letters, states))
	}
	return from(x.roll(states), auto(letters, x.row(states, marks), list...))
}

// changed has another mark, or start, or a rule more or less.
func (x *dice) changed(a api.Trees, marks int) api.Trees {
	a.Rules, a.Mark = slices.Clone(a.Rules), slices.Clone(a.Mark)
	switch x.roll(4) {
	case 0:
		a.Mark[x.roll(a.States)] = x.roll(marks)
	case 1:
		a.Start = x.roll(a.States)
	case 2:
		if len(a.Rules) > 0 {
			i := x.roll(len(a.Rules))
			a.Rules = slices.Delete(a.Rules, i, i+1)
		}
	case 3:
		if len(a.Rules) < api.MaxRules {
			a.Rules = inOrder(append(a.Rules, x.rule(a.Letters, a.States)))
		}
	}
	return a
}

package grow_test

import (
	"math"
	"reflect"
	"slices"
	"testing"

	"evermore/api"
	"evermore/grow"
)

// again accepts trees along each way of which the letter 1 comes again and again: its state is the letter above.
func again() api.Trees {
	return auto(2, []int{1, 0}, api.Rule{Letter: 0, Left: 0, Right: 0, To: 0}, api.Rule{Letter: 0, Left: 0, Right: 0, To: 1},
		api.Rule{Letter: 1, Left: 1, Right: 1, To: 0}, api.Rule{Letter: 1, Left: 1, Right: 1, To: 1})
}

// to has rules of one letter: of each state, in a row, the states below it, left and right. A row may be empty.
func to(mark []int, below ...[][2]int) api.Trees {
	var rules []api.Rule
	for s, pairs := range below {
		for _, p := range pairs {
			rules = append(rules, api.Rule{Left: p[0], Right: p[1], To: s})
		}
	}
	return auto(1, mark, rules...)
}

type pairs = [][2]int

// M1, in the order of its errors. All calls answer them, and nothing else.
func TestRefuses(t *testing.T) {
	for _, x := range []struct {
		name   string
		change func(a *api.Trees)
		want   api.Errno
	}{
		{"nothing", func(a *api.Trees) { *a = api.Trees{} }, api.ErrRange},
		{"no letters", func(a *api.Trees) { a.Letters = 0 }, api.ErrRange},
		{"fewer letters than none", func(a *api.Trees) { a.Letters = -1 }, api.ErrRange},
		{"five letters", func(a *api.Trees) { a.Letters = 5 }, api.ErrRange},
		{"very many letters", func(a *api.Trees) { a.Letters = math.MaxInt }, api.ErrRange},
		{"letters ahead of states", func(a *api.Trees) { a.Letters, a.States = 5, 7 }, api.ErrRange},
		{"letters ahead of marks", func(a *api.Trees) { a.Letters, a.Mark = 0, nil }, api.ErrRange},
		{"no states", func(a *api.Trees) { *a = api.Trees{Letters: 1} }, api.ErrSize},
		{"fewer states than none", func(a *api.Trees) { a.States = -1 }, api.ErrSize},
		{"seven states", func(a *api.Trees) { a.States, a.Mark = 7, make([]int, 7) }, api.ErrSize},
		{"very many states", func(a *api.Trees) { a.States = math.MaxInt }, api.ErrSize},
		{"very few states", func(a *api.Trees) { a.States = math.MinInt }, api.ErrSize},
		{"61 rules", func(a *api.Trees) { *a = auto(1, make([]int, 4), ruleSpace(1, 4)[:61]...) }, api.ErrSize},
		{"61 rules ahead of those that do not rise", func(a *api.Trees) { a.Rules = make([]api.Rule, 61) }, api.ErrSize},
		{"61 rules ahead of a wrong one", func(a *api.Trees) { a.Rules = slices.Repeat([]api.Rule{{To: 9}}, 61) }, api.ErrSize},
		{"a mark too few", func(a *api.Trees) { a.Mark = a.Mark[:1] }, api.ErrSize},
		{"a mark too many", func(a *api.Trees) { a.Mark = append(a.Mark, 0) }, api.ErrSize},
		{"no marks", func(a *api.Trees) { a.Mark = nil }, api.ErrSize},
		{"size ahead of a rule", func(a *api.Trees) { a.Mark, a.Rules[0].To = nil, 9 }, api.ErrSize},
		{"size ahead of the start", func(a *api.Trees) { a.Mark, a.Start = nil, 9 }, api.ErrSize},
		{"size ahead of a mark", func(a *api.Trees) { a.Mark = []int{10} }, api.ErrSize},
		{"size ahead of falling", func(a *api.Trees) { a.Mark, a.Rules[1] = nil, a.Rules[0] }, api.ErrSize},
		{"a rule of no letter", func(a *api.Trees) { a.Rules[3].Letter = 2 }, api.ErrRange},
		{"a rule of a letter below", func(a *api.Trees) { a.Rules[0].Letter = -1 }, api.ErrRange},
		{"no state to the left", func(a *api.Trees) { a.Rules[3].Left = 2 }, api.ErrRange},
		{"a state below to the left", func(a *api.Trees) { a.Rules[0].Left = -1 }, api.ErrRange},
		{"no state to the right", func(a *api.Trees) { a.Rules[3].Right = 2 }, api.ErrRange},
		{"a state below to the right", func(a *api.Trees) { a.Rules[0].Right = -1 }, api.ErrRange},
		{"no children", func(a *api.Trees) { a.Rules[0].Left, a.Rules[0].Right = -1, -1 }, api.ErrRange},
		{"a rule of no state", func(a *api.Trees) { a.Rules[3].To = 2 }, api.ErrRange},
		{"a rule of a state below", func(a *api.Trees) { a.Rules[0].To = -1 }, api.ErrRange},
		{"a rule of a state far below", func(a *api.Trees) { a.Rules[0].To = math.MinInt }, api.ErrRange},
		{"the start beyond", func(a *api.Trees) { a.Start = 2 }, api.ErrRange},
		{"the start below", func(a *api.Trees) { a.Start = -1 }, api.ErrRange},
		{"the start far beyond", func(a *api.Trees) { a.Start = math.MaxInt }, api.ErrRange},
		{"the mark 10", func(a *api.Trees) { a.Mark[1] = 10 }, api.ErrRange},
		{"a mark below", func(a *api.Trees) { a.Mark[0] = -1 }, api.ErrRange},
		{"a mark far below", func(a *api.Trees) { a.Mark[0] = math.MinInt }, api.ErrRange},
		{"the mark 10, no rules", func(a *api.Trees) { a.Mark[1], a.Rules = 10, nil }, api.ErrRange},
		{"the start ahead of falling", func(a *api.Trees) { a.Start, a.Rules[1] = 2, a.Rules[0] }, api.ErrRange},
		{"a mark ahead of falling", func(a *api.Trees) { a.Mark[0], a.Rules[1] = 10, a.Rules[0] }, api.ErrRange},
		{"a late rule ahead of falling", func(a *api.Trees) { a.Rules[1], a.Rules[3].To = a.Rules[0], 2 }, api.ErrRange},
		{"a rule twice", func(a *api.Trees) { a.Rules[1] = a.Rules[0] }, api.ErrShape},
		{"the last rule twice", func(a *api.Trees) { a.Rules = append(a.Rules, a.Rules[3]) }, api.ErrShape},
		{"letters fall", func(a *api.Trees) { a.Rules = []api.Rule{{Letter: 1}, {Letter: 0, Left: 1, Right: 1, To: 1}} }, api.ErrShape},
		{"lefts fall", func(a *api.Trees) { a.Rules = []api.Rule{{Left: 1}, {Right: 1, To: 1}} }, api.ErrShape},
		{"rights fall", func(a *api.Trees) { a.Rules = []api.Rule{{Right: 1}, {To: 1}} }, api.ErrShape},
		{"tos fall", func(a *api.Trees) { a.Rules = []api.Rule{{To: 1}, {To: 0}} }, api.ErrShape},
	} {
		a := again()
		try(t, a)
		x.change(&a)
		if e := grow.Check(a); e != x.want {
			t.Errorf("%s: %v, not %v", x.name, e, x.want)
		}
		if g, can, e := grow.Grow(a); !reflect.DeepEqual(g, api.Grown{}) || can || e != x.want {
			t.Errorf("%s: Grow: %v, %v, %v, not %v", x.name, g, can, e, x.want)
		}
		if ways, can, e := grow.Bar(a); len(ways) > 0 || can || e != x.want {
			t.Errorf("%s: Bar: %v, %v, %v, not %v", x.name, ways, can, e, x.want)
		}
	}
}

// M1 to M3, by hand: is a tree accepted?
func TestByHand(t *testing.T) {
	zeros := again()
	zeros.Rules = zeros.Rules[:2]
	ends := again()
	ends.Mark = []int{2, 1}
	endsNot := ends
	endsNot.Rules = endsNot.Rules[2:]
	for _, x := range []struct {
		name string
		a    api.Trees
		can  bool
	}{
		{"the letter 1 again and again", again(), true},
		{"the same, from the other state", from(1, again()), true},
		{"the same, with the letter 0 alone", zeros, false},
		{"the letter 1 not again and again", ends, true},
		{"the same, with the letter 1 alone", endsNot, false},
		{"no rules, an even mark", to([]int{0}), false},
		{"no rules, an odd mark", to([]int{1}), false},
		{"one rule, mark 0", to([]int{0}, pairs{{0, 0}}), true},
		{"one rule, mark 1", to([]int{1}, pairs{{0, 0}}), false},
		{"one rule, mark 8", to([]int{8}, pairs{{0, 0}}), true},
		{"one rule, mark 9", to([]int{9}, pairs{{0, 0}}), false},
		{"no rule of the start", to([]int{0, 0}, nil, pairs{{1, 1}}), false},
		{"no rule of another state", to([]int{0, 0}, pairs{{0, 0}}), true},
		{"no rule to the left, mark 0", to([]int{0, 0}, pairs{{1, 0}}), false},
		{"no rule to the right, mark 0", to([]int{0, 0}, pairs{{0, 1}}), false},
		{"no rule to the right, but another rule", to([]int{0, 0}, pairs{{0, 1}, {0, 0}}), true},
		{"no rule two below", to([]int{0, 0, 0}, pairs{{0, 1}}, pairs{{2, 0}}), false},
		{"an odd mark to the left", to([]int{0, 1}, pairs{{1, 0}}, pairs{{1, 1}}), false},
		{"an odd mark to the right", to([]int{0, 1}, pairs{{0, 1}}, pairs{{1, 1}}), false},
		{"an odd mark, not again and again", to([]int{1, 2}, pairs{{1, 1}}, pairs{{1, 1}}), true},
		{"an even mark, not again and again", to([]int{0, 1}, pairs{{1, 1}}, pairs{{1, 1}}), false},
		{"0 and 1 in turn", to([]int{0, 1}, pairs{{1, 1}}, pairs{{0, 0}}), true},
		{"1 and 2 in turn", to([]int{1, 2}, pairs{{1, 1}}, pairs{{0, 0}}), false},
		{"2 and 3 in turn", to([]int{3, 2}, pairs{{1, 1}}, pairs{{0, 0}}), true},
		{"8 and 9 in turn", to([]int{9, 8}, pairs{{1, 1}}, pairs{{0, 0}}), true},
		{"in turn, but one can stay with the odd one", to([]int{0, 1}, pairs{{1, 1}}, pairs{{1, 0}}), false},
		{"in turn, but one can stay with the even one", to([]int{1, 2}, pairs{{1, 1}}, pairs{{1, 0}}), false},
		{"the first rule is the right one", to([]int{3, 2, 1}, pairs{{1, 1}, {2, 2}}, pairs{{0, 0}}, pairs{{0, 0}}), true},
		{"the last rule is the right one", to([]int{3, 1, 2}, pairs{{1, 1}, {2, 2}}, pairs{{0, 0}}, pairs{{0, 0}}), true},
		{"each rule has a wrong way", to([]int{3, 1, 2}, pairs{{1, 2}, {2, 1}}, pairs{{0, 0}}, pairs{{0, 0}}), false},
		{"each rule has a wrong way, but the least mark is above it", to([]int{0, 1, 2}, pairs{{1, 2}, {2, 1}}, pairs{{0, 0}}, pairs{{0, 0}}), true},
		{"the rule that leads on, not the one that stays", to([]int{2, 1, 0}, pairs{{1, 0}}, pairs{{1, 1}, {2, 2}}, pairs{{0, 0}}), true},
		{"left at the one, right at the other", to([]int{4, 4, 3}, pairs{{2, 1}}, pairs{{0, 2}}, pairs{{0, 1}}), false},
		{"six in a ring, one 0", to([]int{1, 1, 1, 1, 1, 0}, pairs{{1, 1}}, pairs{{2, 2}}, pairs{{3, 3}}, pairs{{4, 4}}, pairs{{5, 5}}, pairs{{0, 0}}), true},
		{"six in a ring, one 1", from(3, to([]int{2, 2, 2, 2, 2, 1}, pairs{{1, 1}}, pairs{{2, 2}}, pairs{{3, 3}}, pairs{{4, 4}}, pairs{{5, 5}}, pairs{{0, 0}})), false},
		{"six in a ring, to and fro, all marks", to([]int{9, 8, 7, 6, 5, 4}, pairs{{1, 5}}, pairs{{2, 0}}, pairs{{3, 1}}, pairs{{4, 2}}, pairs{{5, 3}}, pairs{{0, 4}}), false},
		{"the last letter alone", auto(4, []int{0}, api.Rule{Letter: 3}), true},
		{"60 rules of six states", auto(4, []int{1, 3, 5, 7, 9, 8}, ruleSpace(4, 6)[:60]...), false},
		{"60 other rules of six states", auto(4, []int{1, 3, 5, 7, 9, 8}, ruleSpace(4, 6)[len(ruleSpace(4, 6))-60:]...), true},
	} {
		if g, ways, can := try(t, x.a); can != x.can {
			t.Errorf("%s: %v %v %v", x.name, g, ways, can)
		}
	}
}

// M2, by hand: where there is but one rule a state, there is but one tree.
func TestOneTree(t *testing.T) {
	a := from(2, auto(4, []int{2, 0, 1}, api.Rule{Letter: 3, Left: 1, Right: 0, To: 2}, api.Rule{Letter: 1, Left: 2, Right: 1, To: 1},
		api.Rule{Letter: 2, Left: 0, Right: 0, To: 0}))
	g, _, can := try(t, a)
	if !can {
		t.Fatal(g)
	}
	letters := []int{2, 1, 3}
	for p, s := range g.State {
		if g.Letter[p] != letters[s] {
			t.Error(g)
		}
	}
	for s := range 3 {
		if !slices.Contains(g.State, s) {
			t.Error("a state that must come does not:", s, g)
		}
	}
}

// M3, by hand: where just one way bars, it is the one that is answered.
func TestOneWay(t *testing.T) {
	for _, x := range []struct {
		name string
		a    api.Trees
		want []int
	}{
		{"left, to no rules", to([]int{0, 0}, pairs{{1, 0}}), []int{0}},
		{"right, to no rules", to([]int{0, 0}, pairs{{0, 1}}), []int{1}},
		{"left, to an odd mark", to([]int{0, 1, 2}, pairs{{1, 2}}, pairs{{1, 1}}, pairs{{2, 2}}), []int{0, 0, 0}},
		{"right, to an odd mark", to([]int{0, 1, 2}, pairs{{2, 1}}, pairs{{1, 1}}, pairs{{2, 2}}), []int{0, 1, 0}},
		{"now left, now right", to([]int{0, 0}, pairs{{0, 1}, {1, 0}}), []int{1, 0}},
		{"stays with the odd mark", to([]int{0, 1}, pairs{{1, 1}}, pairs{{0, 1}}), []int{1, 0}},
		{"no rules", to([]int{0}), nil},
		{"no rules of six states", to(make([]int, 6)), nil},
	} {
		_, ways, can := try(t, x.a)
		if can || len(ways) != len(x.want) {
			t.Errorf("%s: %v", x.name, ways)
			continue
		}
		for i, r := range x.a.Rules {
			if r.Left != r.Right && ways[i] != x.want[i] {
				t.Errorf("%s: %v, not %v", x.name, ways, x.want)
			}
		}
	}
}

// M1: all that may be, up to the limits.
func TestLimits(t *testing.T) {
	for letters := 1; letters <= api.MaxLetters; letters++ {
		for states := 1; states <= api.MaxLeaves; states++ {
			space := ruleSpace(letters, states)
			for mark := 0; mark <= api.MaxMark; mark++ {
				a := auto(letters, slices.Repeat([]int{mark}, states), space[:min(len(space), api.MaxRules)]...)
				a.Start = states - 1
				ruled := slices.ContainsFunc(a.Rules, func(r api.Rule) bool { return r.To == a.Start })
				if _, _, can := try(t, a); can != (ruled && mark%2 == 0) {
					t.Error(a, can)
				}
			}
		}
	}
}

// M4: all automata of one letter and two states, and of three states all with three rules (from 0), with marks up to
// 2, held against all choices of rules, and all ways.
func TestSmall(t *testing.T) {
	var many [2]int
	hold := func(a api.Trees) {
		_, _, can := try(t, a)
		if can != someTree(a) || can == someWays(a) {
			t.Fatal(a, can, someTree(a), someWays(a))
		}
		many[bit(can)]++
	}
	space := ruleSpace(1, 2)
	for n := range 1 << len(space) * 9 * 2 {
		a := api.Trees{Letters: 1, States: 2, Start: n % 2, Mark: []int{n / 2 % 3, n / 6 % 3}}
		for i, r := range space {
			if n/18>>i&1 == 1 {
				a.Rules = append(a.Rules, r)
			}
		}
		hold(a)
	}
	space = ruleSpace(1, 3)
	for i := range space {
		for j := range i {
			for k := range j {
				for m := range 27 {
					hold(auto(1, []int{m % 3, m / 3 % 3, m / 9}, space[k], space[j], space[i]))
				}
			}
		}
	}
	if min(many[0], many[1]) < 1000 {
		t.Error("nearly all are alike:", many)
	}
}

func bit(is bool) int {
	if is {
		return 1
	}
	return 0
}

// M2 to M4: greater ones; what is answered is held against M1's and M3's words as well, by going down.
func TestGreater(t *testing.T) {
	x, many := dice(1), [2]int{}
	for i := range 20000 {
		a := x.auto(1+i%4, 1+x.roll(6), x.roll(61), 1+x.roll(10))
		g, ways, can := try(t, a)
		goDown(t, &x, a, g, ways, can)
		many[bit(can)]++
	}
	if min(many[0], many[1]) < 5000 {
		t.Error("nearly all are alike:", many)
	}
}

func goDown(t *testing.T, x *dice, a api.Trees, g api.Grown, ways []int, can bool) {
	t.Helper()
	for range 5 {
		if turns := x.row(1+x.roll(6), 2); can && walk(a, g, turns)%2 != 0 {
			t.Fatal(a, g, turns)
		}
		if turns := x.row(1+x.roll(6), 60); !can && descend(a, ways, turns)%2 != 1 {
			t.Fatal(a, ways, turns)
		}
	}
}

// M2, M3: automata that are changed, bit by bit, so that few rules and few ways are right.
func TestChanged(t *testing.T) {
	x, best := dice(2), [2]int{}
	for i := range 40 {
		a, most := x.auto(2, 6, 30, 10), 0
		for range 600 {
			b := x.changed(a, 10)
			g, ways, can := try(t, b)
			goDown(t, &x, b, g, ways, can)
			n := needed(b, g, ways, can)
			if bit(can) == i%2 && n >= most {
				a, most = b, n
			}
			best[bit(can)] = max(best[bit(can)], n)
		}
	}
	if best[0] < 15 || best[1] < 15 {
		t.Error("few things are needed:", best)
	}
}

// needed counts what cannot be another one: the ways that bar no more when they are turned; or the other rules that a
// tree cannot have in the place of its own.
func needed(a api.Trees, g api.Grown, ways []int, can bool) int {
	n := 0
	for i, way := range ways {
		ways[i] = 1 - way
		n += bit(judgeWays(a, ways) != "")
		ways[i] = way
	}
	if !can {
		return n
	}
	chosen := slices.Repeat([]int{-1}, a.States)
	for i, r := range a.Rules {
		chosen[r.To] = i
	}
	for p, s := range g.State {
		chosen[s] = slices.Index(a.Rules, api.Rule{Letter: g.Letter[p], Left: g.State[g.Left[p]], Right: g.State[g.Right[p]], To: s})
	}
	for i, r := range a.Rules {
		own := chosen[r.To]
		chosen[r.To] = i
		h, is := planted(a, chosen)
		n += bit(!is || judgeTree(a, h) != "")
		chosen[r.To] = own
	}
	return n
}

// The judges let nothing pass that is wrong.
func TestJudges(t *testing.T) {
	a := from(1, to([]int{1, 2, 0}, pairs{{1, 0}}, pairs{{1, 1}, {0, 2}}, pairs{{1, 2}}))
	fine := api.Grown{Letter: []int{0}, State: []int{1}, Left: []int{0}, Right: []int{0}}
	if s := judgeTree(a, fine); s != "" {
		t.Error(s)
	}
	for _, g := range []api.Grown{
		{},
		{Letter: []int{1}, State: []int{1}, Left: []int{0}, Right: []int{0}},
		{Letter: []int{0}, State: []int{2}, Left: []int{0}, Right: []int{0}},
		{Letter: []int{0}, State: []int{1}, Left: []int{1}, Right: []int{0}},
		{Letter: []int{0}, State: []int{1}, Left: []int{0}, Right: []int{-1}},
		{Letter: []int{0}, State: []int{1}, Left: []int{0}, Right: []int{0, 0}},
		{Letter: []int{0, 0, 0}, State: []int{1, 0, 2}, Left: []int{1, 0, 0}, Right: []int{2, 1, 2}},
		{Letter: []int{0, 0}, State: []int{2, 1}, Left: []int{1, 1}, Right: []int{0, 1}},
	} {
		if judgeTree(a, g) == "" {
			t.Error("passes:", g)
		}
	}
	b := to([]int{0, 1}, pairs{{1, 1}}, pairs{{0, 1}})
	if s := judgeWays(b, []int{1, 0}); s != "" {
		t.Error(s)
	}
	for _, ways := range [][]int{nil, {1}, {0, 0}, {0, 1}, {2, 0}, {1, -1}, {1, 0, 0}} {
		if judgeWays(b, ways) == "" {
			t.Error("pass:", ways)
		}
	}
}

// P3: what is handed in is left as it is, and what comes out shares memory with nothing.
func TestMemory(t *testing.T) {
	roomy := func(a api.Trees) api.Trees {
		a.Rules = append(a.Rules, api.Rule{Letter: 9, Left: 9, Right: 9, To: 9})[:len(a.Rules)]
		a.Mark = append(a.Mark, 99)[:len(a.Mark)]
		return a
	}
	fresh := func(can bool) api.Trees {
		return roomy(to([]int{bit(!can), 2, 3}, pairs{{1, 2}}, pairs{{2, 0}}, pairs{{0, 1}}))
	}
	for _, can := range []bool{false, true} {
		a := fresh(can)
		grow.Check(a)
		g, ways, is := try(t, a)
		h, kept, _ := try(t, a)
		if is != can || !reflect.DeepEqual(g, h) || !slices.Equal(ways, kept) {
			t.Fatal(g, ways, is, h, kept)
		}
		rows := [][]int{g.Letter, g.State, g.Left, g.Right, ways}
		for i, row := range rows {
			for j := range row {
				row[j] = 100 * i
			}
			rows[i] = append(row, 100*i)
		}
		for i, row := range rows {
			if !slices.Equal(row, slices.Repeat([]int{100 * i}, len(row))) {
				t.Error("lists share memory:", rows)
			}
		}
		if b := fresh(can); !reflect.DeepEqual(a, b) ||
			!slices.Equal(a.Rules[:len(a.Rules)+1], b.Rules[:len(b.Rules)+1]) || !slices.Equal(a.Mark[:4], b.Mark[:4]) {
			t.Error("what is handed in is changed:", a)
		}
		if g, ways, _ := try(t, a); !reflect.DeepEqual(g, h) || !slices.Equal(ways, kept) {
			t.Error("what was answered is kept:", g, ways)
		}
	}
}

package stack_test

import (
	"math"
	"reflect"
	"slices"
	"strings"
	"testing"

	"evermore/api"
	"evermore/det"
	"evermore/regular"
	"evermore/stack"
)

// pushes puts signs, takes them away again, and comes to the control 2 at an a.
func pushes() []api.Push { return rules("0a>0ba 0b>1 1b>1 1a>2") }

// long takes many rules for few signs.
func long() []api.Push { return rules("0c>2ba 2c>1 1a>0ab 1b>0 2a>0ca 2b>0ac 2a>2 0a>2aa") }

// refused sees that Before and Way answer an error, and nothing else.
func refused(t *testing.T, name string, l []api.Push, from, goal api.Config, want api.Errno) {
	t.Helper()
	if d, e := stack.Before(l, goal); len(d) > 0 || e != want {
		t.Errorf("%s: Before: %v, %v, not %v", name, d, e, want)
	}
	if way, can, e := stack.Way(l, from, goal); len(way) > 0 || can || e != want {
		t.Errorf("%s: Way: %v, %v, %v, not %v", name, way, can, e, want)
	}
}

func refusedStep(t *testing.T, name string, l []api.Push, c api.Config, rule int, want api.Errno) {
	t.Helper()
	if d, e := stack.Step(l, c, rule); d.Control != 0 || len(d.Stack) > 0 || e != want {
		t.Errorf("%s: Step: %v, %v, not %v", name, d, e, want)
	}
}

// N1: what Check says of rules, in the order of its errors. All calls answer it, whatever else is wrong.
func TestRefusesRules(t *testing.T) {
	for _, x := range []struct {
		name   string
		change func(l []api.Push) []api.Push
		want   api.Errno
	}{
		{"nine rules", func(l []api.Push) []api.Push { return slices.Repeat(l[:1], 9) }, api.ErrSize},
		{"very many rules", func(l []api.Push) []api.Push { return make([]api.Push, 1<<20) }, api.ErrSize},
		{"nine rules ahead of a wrong one", func(l []api.Push) []api.Push { return slices.Repeat([]api.Push{{From: 3}}, 9) }, api.ErrSize},
		{"three signs put", func(l []api.Push) []api.Push { l[0].Put = []int{0, 0, 0}; return l }, api.ErrSize},
		{"three signs put by the last one", func(l []api.Push) []api.Push { l[3].Put = []int{0, 0, 0}; return l }, api.ErrSize},
		{"very many signs put", func(l []api.Push) []api.Push { l[3].Put = make([]int, 1<<20); return l }, api.ErrSize},
		{"three signs ahead of wrong ones", func(l []api.Push) []api.Push { l[0].Put = []int{3, 3, 3}; return l }, api.ErrSize},
		{"three signs ahead of an earlier wrong rule", func(l []api.Push) []api.Push {
			l[0].From, l[3].Put = 3, []int{0, 0, 0}
			return l
		}, api.ErrSize},
		{"no control From", func(l []api.Push) []api.Push { l[0].From = 3; return l }, api.ErrRange},
		{"a control From below", func(l []api.Push) []api.Push { l[0].From = -1; return l }, api.ErrRange},
		{"no sign Top", func(l []api.Push) []api.Push { l[1].Top = 3; return l }, api.ErrRange},
		{"a sign Top below", func(l []api.Push) []api.Push { l[1].Top = -1; return l }, api.ErrRange},
		{"no control To", func(l []api.Push) []api.Push { l[2].To = 3; return l }, api.ErrRange},
		{"a control To below", func(l []api.Push) []api.Push { l[2].To = -1; return l }, api.ErrRange},
		{"no sign put", func(l []api.Push) []api.Push { l[3].Put = []int{3}; return l }, api.ErrRange},
		{"a sign put below", func(l []api.Push) []api.Push { l[3].Put = []int{-1}; return l }, api.ErrRange},
		{"no second sign put", func(l []api.Push) []api.Push { l[0].Put[1] = 3; return l }, api.ErrRange},
		{"a second sign put below", func(l []api.Push) []api.Push { l[0].Put[1] = -1; return l }, api.ErrRange},
		{"a number far beyond", func(l []api.Push) []api.Push { l[3].From = math.MaxInt; return l }, api.ErrRange},
		{"a number far below", func(l []api.Push) []api.Push { l[3].To = math.MinInt; return l }, api.ErrRange},
	} {
		l := x.change(pushes())
		if e := stack.Check(l); e != x.want {
			t.Errorf("%s: %v, not %v", x.name, e, x.want)
		}
		wrong := api.Config{Control: 3, Stack: make([]int, 21)}
		if x.want == api.ErrSize {
			wrong = api.Config{Control: 3, Stack: []int{3}}
		}
		for _, c := range []api.Config{at("0a"), wrong} {
			refused(t, x.name, l, c, c, x.want)
			refusedStep(t, x.name, l, c, 0, x.want)
			refusedStep(t, x.name, l, c, -1, x.want)
		}
	}
}

// N1: all that may be: no rules, eight, the same one again.
func TestRulesMayBe(t *testing.T) {
	for _, l := range [][]api.Push{nil, {}, pushes(), long(), slices.Repeat(pushes()[:1], 8), rules("2c>2cc 2c>2c 2c>2 0a>0")} {
		if e := stack.Check(l); e != api.OK {
			t.Error(l, e)
		}
		hold(t, l, at("2ccc"), append(configs(2), at("2"+strings.Repeat("c", 20))), 8)
	}
}

// N1: a config that may not be, the stack's size ahead of its numbers; of two the first.
func TestRefusesConfigs(t *testing.T) {
	deep := func(control, sign int) api.Config {
		return api.Config{Control: control, Stack: slices.Repeat([]int{sign}, 21)}
	}
	for _, x := range []struct {
		name string
		c    api.Config
		want api.Errno
	}{
		{"21 signs", deep(0, 0), api.ErrSize},
		{"21 wrong signs", deep(0, 3), api.ErrSize},
		{"21 signs, a wrong control", deep(3, 0), api.ErrSize},
		{"very many signs", api.Config{Stack: make([]int, 1<<20)}, api.ErrSize},
		{"no control", api.Config{Control: 3}, api.ErrRange},
		{"a control below", api.Config{Control: -1, Stack: []int{0}}, api.ErrRange},
		{"a control far beyond", api.Config{Control: math.MaxInt}, api.ErrRange},
		{"a control far below", api.Config{Control: math.MinInt}, api.ErrRange},
		{"no sign", api.Config{Stack: []int{3}}, api.ErrRange},
		{"a sign below", api.Config{Stack: []int{-1}}, api.ErrRange},
		{"no sign, last", api.Config{Stack: []int{0, 1, 3}}, api.ErrRange},
		{"no sign, four deep", api.Config{Stack: []int{0, 1, 2, 3}}, api.ErrRange},
		{"no sign, 20 deep", api.Config{Stack: append(make([]int, 19), math.MinInt)}, api.ErrRange},
		{"no control, 20 deep", api.Config{Control: 3, Stack: make([]int, 20)}, api.ErrRange},
	} {
		l := pushes()
		for _, from := range []api.Config{x.c, at("0a"), at("2")} {
			refused(t, x.name, l, from, x.c, x.want)
		}
		for _, goal := range []api.Config{at("0a"), at("0aaaa"), {Control: 3}, deep(0, 0)} {
			if way, can, e := stack.Way(l, x.c, goal); len(way) > 0 || can || e != x.want {
				t.Errorf("%s: from: %v, %v, %v, not %v", x.name, way, can, e, x.want)
			}
		}
		for _, rule := range []int{0, -1, 4, 3} {
			refusedStep(t, x.name, l, x.c, rule, x.want)
		}
	}
}

// N3, N4: the goal's stack has more than three signs, but is a stack.
func TestRefusesGoals(t *testing.T) {
	for n := range 21 {
		goal, want := api.Config{Control: 1, Stack: make([]int, n)}, api.OK
		if n > 3 {
			want = api.ErrSize
		}
		if d, e := stack.Before(nil, goal); e != want || (len(d) == 3) != (e == api.OK) {
			t.Error(n, d, e)
		}
		if way, can, e := stack.Way(nil, goal, goal); len(way) > 0 || can != (n <= 3) || e != want {
			t.Error(n, way, can, e)
		}
		if n > 3 {
			refused(t, "goal", pushes(), at("1aaaa"), goal, api.ErrSize)
			refused(t, "goal", pushes(), at("0"), goal, api.ErrSize)
		}
	}
}

// N2, by hand.
func TestStep(t *testing.T) {
	l := rules("0a>0ba 0b>1 1b>2c 2c>2ab 2c>0ba")
	for _, x := range []struct {
		from string
		rule int
		want string
	}{
		{"0a", 0, "0ba"},
		{"0ac", 0, "0bac"},
		{"0b", 1, "1"},
		{"0bcab", 1, "1cab"},
		{"1b", 2, "2c"},
		{"1bba", 2, "2cba"},
		{"2cc", 3, "2abc"},
		{"2cc", 4, "0bac"},
		{"0a" + strings.Repeat("c", 18), 0, "0ba" + strings.Repeat("c", 18)},
		{"0a" + strings.Repeat("c", 19), 0, "0ba" + strings.Repeat("c", 19)},
		{"0b" + strings.Repeat("c", 19), 1, "1" + strings.Repeat("c", 19)},
		{"1b" + strings.Repeat("abc", 6) + "a", 2, "2c" + strings.Repeat("abc", 6) + "a"},
	} {
		if c, e := stack.Step(l, at(x.from), x.rule); !same(c, at(x.want)) || e != api.OK {
			t.Errorf("%s by %d: %v, %v, not %s", x.from, x.rule, c, e, x.want)
		}
	}
	for _, x := range []struct {
		name string
		from string
		rule int
		want api.Errno
	}{
		{"no such rule", "0a", 5, api.ErrName},
		{"a rule below", "0a", -1, api.ErrName},
		{"a rule far beyond", "0a", math.MaxInt, api.ErrName},
		{"a rule far below", "0a", math.MinInt, api.ErrName},
		{"no such rule, no sign", "0", 5, api.ErrName},
		{"no sign", "0", 0, api.ErrNone},
		{"another sign", "0b", 0, api.ErrNone},
		{"another control", "1a", 0, api.ErrNone},
		{"another control and sign", "2b", 0, api.ErrNone},
		{"the sign is below", "0ba", 0, api.ErrNone},
		{"that of another rule", "0a", 1, api.ErrNone},
		{"what the rule puts", "2ab", 3, api.ErrNone},
	} {
		refusedStep(t, x.name, l, at(x.from), x.rule, x.want)
	}
	refusedStep(t, "no rules", nil, at("0a"), 0, api.ErrName)
}

// N2: all rules at all configs with up to two signs, by N1's words.
func TestStepAll(t *testing.T) {
	for n := range 27 {
		for _, put := range words(2) {
			l := []api.Push{{From: 2, Top: 2, To: 2, Put: []int{2, 2}}, {From: n / 9, Top: n / 3 % 3, To: n % 3, Put: put}}
			for _, c := range configs(2) {
				want, can := done(l[1], c)
				d, e := stack.Step(l, c, 1)
				if !same(d, want) || can != (e == api.OK) || !can && e != api.ErrNone {
					t.Fatal(l[1], c, d, e)
				}
			}
		}
	}
}

// N3, by hand: the stacks, by texts (chapter 2), of each control.
func TestBeforeByHand(t *testing.T) {
	for _, x := range []struct {
		name, rules, goal string
		want              [3]string
	}{
		{"no rules, no signs", "", "0", [3]string{"1", "0", "0"}},
		{"no rules, three signs", "", "1abc", [3]string{"0", "abc", "0"}},
		{"no rules, thrice the same sign", "", "2ccc", [3]string{"0", "0", "ccc"}},
		{"puts, and takes away", "0a>0ba 0b>1 1b>1 1a>2", "2", [3]string{"b*a", "b*a", "1"}},
		{"takes all away", "0a>0 0b>0 0c>0", "0", [3]string{"(a+b+c)*", "0", "0"}},
		{"takes all away, but for the goal's", "0a>0 0b>0 0c>0", "0cab", [3]string{"(a+b+c)*cab", "0", "0"}},
		{"takes away by turns", "0a>1 1a>0", "0", [3]string{"(aa)*", "a(aa)*", "0"}},
		{"takes away by three turns", "0a>1 1b>2 2c>0", "1b", [3]string{"(abc)*ab", "(bca)*b", "c(abc)*ab"}},
		{"one sign for another", "0a>0b 0b>0c", "0c", [3]string{"a+b+c", "0", "0"}},
		{"one sign for another, the topmost alone", "0a>0b 0b>0c", "0ca", [3]string{"(a+b+c)a", "0", "0"}},
		{"one control for another", "0a>1a 1a>2a", "2a", [3]string{"a", "a", "a"}},
		{"puts one", "0a>0ba", "0ba", [3]string{"a+ba", "0", "0"}},
		{"puts more and more", "0a>0aa", "0aaa", [3]string{"a+aa+aaa", "0", "0"}},
		{"puts more and more, on others", "0a>0aa", "0aab", [3]string{"ab+aab", "0", "0"}},
		{"puts more, takes it away", "0a>0aa 0a>0", "0aaa", [3]string{"aa*", "0", "0"}},
		{"puts more, takes all away", "0a>0aa 0a>0", "0", [3]string{"a*", "0", "0"}},
		{"never ends", "0a>0aa", "0", [3]string{"1", "0", "0"}},
		{"takes away what it put below", "0a>0bc 0b>1 1c>2", "2", [3]string{"a+bc", "c", "1"}},
		{"below what it put stays", "0a>1bc 1b>2", "2cb", [3]string{"ab", "bcb", "cb"}},
		{"the goal is passed through", "0a>0b 0b>0a", "0ac", [3]string{"ac+bc", "0", "0"}},
		{"two ways down", "0a>1 0a>2 1b>0 2c>0", "0", [3]string{"(a(b+c))*", "b(a(b+c))*", "c(a(b+c))*"}},
		{"comes to the goal's control with other signs", "1a>0", "0b", [3]string{"b", "ab", "0"}},
		{"a rule that changes nothing", "0a>0a", "0a", [3]string{"a", "0", "0"}},
		{"a rule twice", "0a>1 0a>1", "1", [3]string{"a", "1", "0"}},
		{"the last control and sign", "2c>2cc 2c>2", "2cc", [3]string{"0", "0", "cc*"}},
		{"the most rules", "0a>0ab 0a>1 1b>1 1c>2cc 2c>0 0c>0 1a>1ac 2a>2", "1", [3]string{"c*a(b*cc*a)*b*", "(b*cc*a)*b*", "a*cc*a(b*cc*a)*b*"}},
	} {
		d := before(t, rules(x.rules), at(x.goal))
		for control, text := range x.want {
			want, e := regular.Det(3, text)
			if e != api.OK {
				t.Fatal(text, e)
			}
			if !reflect.DeepEqual(d[control], want) {
				w, _, _ := det.Differ(d[control], want)
				t.Errorf("%s, control %d: not %s, at %v: %v", x.name, control, text, w, d[control])
			}
		}
	}
}

// N4, by hand: where all ways have as many rules, or there is but one.
func TestWayByHand(t *testing.T) {
	for _, x := range []struct {
		name, rules, from, goal string
		want                    []int
		can                     bool
	}{
		{"no rules", "", "0", "0", nil, true},
		{"no rules, another control", "", "0", "1", nil, false},
		{"no rules, the same signs", "", "0abc", "0abc", nil, true},
		{"no rules, other signs", "", "0abc", "0acb", nil, false},
		{"no rules, fewer signs", "", "0ab", "0a", nil, false},
		{"no rules, more signs", "", "0a", "0ab", nil, false},
		{"puts, and takes away", "0a>0ba 0b>1 1b>1 1a>2", "0a", "2", []int{0, 1, 3}, true},
		{"takes away", "0a>0ba 0b>1 1b>1 1a>2", "0bba", "2", []int{1, 2, 3}, true},
		{"is not topmost", "0a>0ba 0b>1 1b>1 1a>2", "0ab", "2", nil, false},
		{"three by three", "0a>1 1b>2 2c>0", "0abcabcabc", "0", []int{0, 1, 2, 0, 1, 2, 0, 1, 2}, true},
		{"leaves the goal's signs", "0a>1 1b>2 2c>0", "0abcabc", "0abc", []int{0, 1, 2}, true},
		{"leaves other signs", "0a>1 1b>2 2c>0", "0abcabc", "0bca", nil, false},
		{"puts the goal's signs", "0a>0ba 0b>0cb", "0a", "0cba", []int{0, 1}, true},
		{"changes the topmost of the goal's", "0a>1b", "0aab", "1bab", []int{0}, true},
		{"the last of eight", "1a>1 1b>1 1c>1 2a>2 2b>2 2c>2 0b>0 0a>0", "0a", "0", []int{7}, true},
		{"20 signs", "0a>1 1a>0", "0" + strings.Repeat("a", 20), "0", []int{0, 1, 0, 1, 0, 1, 0, 1, 0, 1, 0, 1, 0, 1, 0, 1, 0, 1, 0, 1}, true},
		{"20 signs, one left", "0a>1 1a>0", "0" + strings.Repeat("a", 20), "1a", []int{0, 1, 0, 1, 0, 1, 0, 1, 0, 1, 0, 1, 0, 1, 0, 1, 0, 1, 0}, true},
		{"deeper than 20", "0a>0bb 0b>1 1b>1 1a>1", "0" + strings.Repeat("a", 20), "1", append([]int{0, 1, 2}, slices.Repeat([]int{3}, 19)...), true},
		{"only deeper", "0a>0aa", "0aaaa", "0aaa", nil, false},
	} {
		way, can, e := stack.Way(rules(x.rules), at(x.from), at(x.goal))
		if !slices.Equal(way, x.want) || can != x.can || e != api.OK {
			t.Errorf("%s: %v, %v, %v, not %v", x.name, way, can, e, x.want)
		}
	}
}

// N4: up to 2000 rules there is a way; beyond, none is told. How many it takes, the judge counts.
func TestLong(t *testing.T) {
	l, goal := long(), at("2c")
	j := newJudge(l, goal, 2600)
	d := before(t, l, goal)
	for _, x := range []struct {
		top    string
		fewest int
	}{
		{"0ababc", 1999},
		{"1aabc", 2000},
		{"2caabc", 2001},
		{"0ccca", 2002},
		{"0cbbbb", 2521},
	} {
		c := at(x.top + strings.Repeat("b", 15))
		if n := j.fewest(c); n != x.fewest || !accepts(d, c) {
			t.Fatal(x.top, n)
		}
		want := x.fewest
		if want > 2000 {
			want = full
		}
		if n := ask(t, l, c, goal); n > 2000 || (n == full) != (want == full) || want == 2000 && n != 2000 {
			t.Error(x.top, n, want)
		}
		c.Stack[len(c.Stack)-1] = 0
		if n := ask(t, l, c, goal); (n == no) == accepts(d, c) || n != no && n != full && n < j.fewest(c) {
			t.Error(x.top, "with another sign below:", n)
		}
	}
}

// N4: wherever there are ways, but long ones, too: as many signs as may be, of the same system.
func TestLongOnes(t *testing.T) {
	many := [3]int{}
	l, goal := long(), at("2c")
	j, x := newJudge(l, goal, 2000), dice(3)
	for range 100 {
		c := api.Config{Control: x.roll(3), Stack: slices.Concat(x.row(5), slices.Repeat([]int{1}, 15))}
		n, want := ask(t, l, c, goal), j.fewest(c)
		switch {
		case n >= 0 && want >= 0 && n >= want:
			many[0]++
		case n == full && want == no:
			many[1]++
		case n == no && want == no:
			many[2]++
		default:
			t.Fatal(c, n, want)
		}
	}
	if slices.Min(many[:]) < 10 {
		t.Error("nearly all are alike:", many)
	}
}

// N3 to N5: all systems of one rule, all goals with up to one sign, all configs with up to two.
func TestOneRule(t *testing.T) {
	for n := range 27 {
		for _, put := range words(2) {
			l := []api.Push{{From: n / 9, Top: n / 3 % 3, To: n % 3, Put: put}}
			for _, goal := range configs(1) {
				hold(t, l, goal, configs(2), 8)
			}
		}
	}
}

// hold sees that there is a way just where Before's automaton accepts (N5), and that it is one with as few rules as
// the judge counts, where these are no more than the limit. It answers how many ways there are, and how many not.
func hold(t *testing.T, l []api.Push, goal api.Config, list []api.Config, limit int) (ways, others int) {
	t.Helper()
	d, j := before(t, l, goal), newJudge(l, goal, limit)
	for _, c := range list {
		n, want := ask(t, l, c, goal), j.fewest(c)
		if (n != no) != accepts(d, c) {
			t.Fatal(l, c, goal, "way, but not accepted, or the other way round:", n)
		}
		if want != no && (n < want || n > 2000) || want == no && n >= 0 && n <= limit {
			t.Fatal(l, c, goal, "not as many rules as counted:", n, want)
		}
		if n == no {
			others++
		} else {
			ways++
		}
	}
	return ways, others
}

// N3 to N5: greater ones, with goals that some rules lead to; all configs with up to three signs, those that were passed
// through, and some deep ones.
func TestGreater(t *testing.T) {
	x, many := dice(1), [2]int{}
	for range 400 {
		l, goal, list := x.walk(20, 60)
		list = append(list, configs(3)...)
		for range 20 {
			list = append(list, x.config(20))
		}
		ways, others := hold(t, l, goal, list, 40)
		many[0], many[1] = many[0]+ways, many[1]+others
	}
	if min(many[0], many[1]) < 3000 {
		t.Error("nearly all are alike:", many)
	}
}

// N3 to N5: systems of eight rules, whose goal can be come to from much, and by long ways: they are changed, rule by
// rule, so that it takes more rules from a deep stack.
func TestChanged(t *testing.T) {
	x, most := dice(2), 0
	for range 12 {
		l, from, goal, best := x.rules(8), api.Config{Stack: x.row(20)}, x.config(3), no
		for range 1500 {
			m, c := slices.Clone(l), api.Config{Stack: slices.Clone(from.Stack)}
			for range 1 + x.roll(2) {
				m[x.roll(8)] = x.rule()
				c.Stack[x.roll(20)] = x.roll(3)
			}
			n := ask(t, m, c, goal)
			if n >= best && n != full {
				l, from, best = m, c, n
			}
		}
		most = max(most, best)
		hold(t, l, goal, append(configs(2), from, x.config(20)), 300)
	}
	if most < 300 {
		t.Error("all ways are short:", most)
	}
}

// The judge counts as those do who do all that can be done.
func TestJudge(t *testing.T) {
	x, many := dice(4), [2]int{}
	for range 400 {
		l, goal, list := x.walk(5, 10)
		j := newJudge(l, goal, 7)
		for range 10 {
			list = append(list, x.config(4))
		}
		for _, c := range list {
			n, want := j.fewest(c), tried(l, c, goal, 7)
			if n != want {
				t.Fatal(l, c, goal, n, want)
			}
			many[min(n-no, 1)]++
		}
	}
	if min(many[0], many[1]) < 1000 {
		t.Error("nearly all are alike:", many)
	}
}

// The judges let nothing pass that is wrong.
func TestJudges(t *testing.T) {
	l, goal := pushes(), at("2")
	for _, way := range [][]int{nil, {0}, {0, 1}, {0, 1, 2}, {0, 1, 3, 3}, {0, 1, 4}, {-1}, {1, 3}} {
		if leads(l, at("0a"), goal, way) {
			t.Error("leads:", way)
		}
	}
	if !leads(l, at("0a"), goal, []int{0, 1, 3}) {
		t.Error("does not lead")
	}
	automata := func(texts ...string) []api.Det {
		var out []api.Det
		for _, x := range texts {
			d, _ := regular.Det(3, x)
			out = append(out, d)
		}
		return out
	}
	if wrong := judgeBefore(l, goal, automata("b*a", "b*a", "1")); wrong != "" {
		t.Error(wrong)
	}
	unnumbered := automata("b*a", "b*a", "1")
	unnumbered[1] = api.Det{Letters: 3, Next: append(unnumbered[1].Next, []int{0, 0, 0}), Mark: append(unnumbered[1].Mark, 0)}
	for _, d := range [][]api.Det{automata("b*a", "b*a", "0"), automata("b*a", "a", "1"), automata("a", "b*a", "1"), unnumbered} {
		if judgeBefore(l, goal, d) == "" {
			t.Error("passes:", d)
		}
	}
}

// roomy has something behind the length of each list.
func roomy(l []api.Push, configs ...*api.Config) []api.Push {
	for i, r := range l {
		l[i].Put = append(slices.Clip(r.Put), 99)[:len(r.Put)]
	}
	for _, c := range configs {
		c.Stack = append(slices.Clip(c.Stack), 99)[:len(c.Stack)]
	}
	return append(slices.Clip(l), api.Push{From: 99})[:len(l)]
}

// handed is what is handed in, with what lies behind the lists' lengths.
func handed(l []api.Push, configs ...api.Config) []any {
	out := []any{l[:len(l)+1]}
	for _, r := range l {
		out = append(out, r.Put[:len(r.Put)+1])
	}
	for _, c := range configs {
		out = append(out, c.Control, c.Stack[:len(c.Stack)+1])
	}
	return out
}

// spoil writes into lists, and behind them, and tells whether any two share memory.
func spoil(lists ...[]int) bool {
	for i, row := range lists {
		for j := range row {
			row[j] = 1000 + i
		}
		lists[i] = append(row, 1000+i)
	}
	for i, row := range lists {
		if !slices.Equal(row, slices.Repeat([]int{1000 + i}, len(row))) {
			return true
		}
	}
	return false
}

// P3: what is handed in is left as it is, and what comes out shares memory with nothing.
func TestMemory(t *testing.T) {
	fresh := func() ([]api.Push, api.Config, api.Config) {
		from, goal := at("0aab"), at("1bab")
		return roomy(rules("0a>0bc 0b>1b 1b>1 1c>1b 1b>1ba"), &from, &goal), from, goal
	}
	l, from, goal := fresh()
	ask(t, l, from, goal)
	calls := func() ([]api.Det, []int, []api.Config) {
		d := before(t, l, goal)
		way, _, _ := stack.Way(l, from, goal)
		put, _ := stack.Step(l, from, 0)
		taken, _ := stack.Step(l, goal, 2)
		return d, way, []api.Config{put, taken}
	}
	d, way, c := calls()
	e, kept, b := calls()
	if len(way) == 0 || !reflect.DeepEqual(d, e) || !slices.Equal(way, kept) || !reflect.DeepEqual(c, b) {
		t.Fatal(d, way, c, e, kept, b)
	}
	lists := [][]int{way, c[0].Stack, c[1].Stack}
	for _, x := range d {
		lists = append(append(lists, x.Mark), x.Next...)
	}
	if spoil(lists...) {
		t.Error("lists share memory:", lists)
	}
	for i := range d {
		d[i].Next = append(d[i].Next[:0], nil)
	}
	x, y, z := fresh()
	if !reflect.DeepEqual(handed(l, from, goal), handed(x, y, z)) {
		t.Error("what is handed in is changed:", l, from, goal)
	}
	if d, way, c := calls(); !reflect.DeepEqual(d, e) || !slices.Equal(way, kept) || !reflect.DeepEqual(c, b) {
		t.Error("what was answered is kept:", d, way, c)
	}
}

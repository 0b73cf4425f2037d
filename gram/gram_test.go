package gram_test

import (
	"fmt"
	"math"
	"reflect"
	"slices"
	"strings"
	"testing"

	"evermore/api"
	"evermore/gram"
)

// pairs is the example: as many letters 0 as letters 1 behind them.
func pairs() api.Grammar { return read(2, 1, "A>aAb", "A>") }

// mixed has two letters and three names.
func mixed() api.Grammar { return read(2, 3, "A>BC", "B>aB", "B>", "C>bAb", "C>b") }

// everything accepts all words.
func everything(many int) api.Det {
	return api.Det{Letters: many, Next: [][]int{make([]int, many)}, Mark: []int{1}}
}

// ring counts letters up to so many, and accepts at those counts.
func ring(many, states int, good ...int) api.Det {
	d := api.Det{Letters: many, Mark: make([]int, states)}
	for s := range states {
		d.Next = append(d.Next, slices.Repeat([]int{(s + 1) % states}, many))
	}
	for _, s := range good {
		d.Mark[s] = 1
	}
	return d
}

// refused sees that no call does anything with g but tell what is wrong, whatever else is.
func refused(t *testing.T, name string, g api.Grammar, want api.Errno) {
	t.Helper()
	if e := gram.Check(g); e != want {
		t.Errorf("%s: Check: %v, not %v", name, e, want)
	}
	for _, w := range [][]int{nil, {0}, {9}, make([]int, 13), make([]int, 61)} {
		if l, tells, e := gram.Tells(g, w); len(l) > 0 || tells || e != want {
			t.Errorf("%s: Tells: %v, %v, %v, not %v", name, l, tells, e, want)
		}
	}
	if w, some, e := gram.Some(g); len(w) > 0 || some || e != want {
		t.Errorf("%s: Some: %v, %v, %v, not %v", name, w, some, e, want)
	}
	if ends, met, e := gram.Useful(g); len(ends) > 0 || len(met) > 0 || e != want {
		t.Errorf("%s: Useful: %v, %v, %v, not %v", name, ends, met, e, want)
	}
	if is, e := gram.Endless(g); is || e != want {
		t.Errorf("%s: Endless: %v, %v, not %v", name, is, e, want)
	}
	for _, d := range []api.Det{everything(2), everything(1), ring(2, 5), {}, {Letters: 1}} {
		if w, some, e := gram.Both(g, d); len(w) > 0 || some || e != want {
			t.Errorf("%s: Both: %v, %v, %v, not %v", name, w, some, e, want)
		}
	}
	for _, n := range []int{0, 5, 6, -1} {
		if many, e := gram.Many(g, n); many != 0 || e != want {
			t.Errorf("%s: Many: %v, %v, not %v", name, many, e, want)
		}
	}
}

// A change makes a grammar wrong, in the way that an error tells.
type change struct {
	name string
	do   func(g *api.Grammar)
	want api.Errno
}

func changes() []change {
	return []change{
		{"no letters", func(g *api.Grammar) { g.Letters = 0 }, api.ErrRange},
		{"letters below", func(g *api.Grammar) { g.Letters = -1 }, api.ErrRange},
		{"letters far below", func(g *api.Grammar) { g.Letters = math.MinInt }, api.ErrRange},
		{"letters beyond", func(g *api.Grammar) { g.Letters = 5 }, api.ErrRange},
		{"letters far beyond", func(g *api.Grammar) { g.Letters = math.MaxInt }, api.ErrRange},

		{"no names", func(g *api.Grammar) { g.Names = 0 }, api.ErrSize},
		{"names below", func(g *api.Grammar) { g.Names = -1 }, api.ErrSize},
		{"names beyond", func(g *api.Grammar) { g.Names = 7 }, api.ErrSize},
		{"names far beyond", func(g *api.Grammar) { g.Names = math.MaxInt }, api.ErrSize},
		{"names far below", func(g *api.Grammar) { g.Names = math.MinInt }, api.ErrSize},
		{"21 rules", func(g *api.Grammar) { g.Makes = make([]api.Make, 21) }, api.ErrSize},
		{"very many rules", func(g *api.Grammar) { g.Makes = make([]api.Make, 1<<20) }, api.ErrSize},

		{"From is no name", func(g *api.Grammar) { g.Makes[0].From = 3 }, api.ErrRange},
		{"the last From is no name", func(g *api.Grammar) { g.Makes[4].From = 3 }, api.ErrRange},
		{"From below", func(g *api.Grammar) { g.Makes[1].From = -1 }, api.ErrRange},
		{"From far beyond", func(g *api.Grammar) { g.Makes[2].From = math.MaxInt }, api.ErrRange},
		{"From far below", func(g *api.Grammar) { g.Makes[2].From = math.MinInt }, api.ErrRange},

		{"four signs", func(g *api.Grammar) { g.Makes[0].To = make([]int, 4) }, api.ErrSize},
		{"the last has four signs", func(g *api.Grammar) { g.Makes[4].To = make([]int, 4) }, api.ErrSize},
		{"very many signs", func(g *api.Grammar) { g.Makes[1].To = make([]int, 1<<20) }, api.ErrSize},

		{"no sign", func(g *api.Grammar) { g.Makes[0].To = []int{5} }, api.ErrRange},
		{"the last has no sign", func(g *api.Grammar) { g.Makes[4].To = []int{0, 4, 5} }, api.ErrRange},
		{"a sign below", func(g *api.Grammar) { g.Makes[1].To = []int{0, -1} }, api.ErrRange},
		{"a sign far beyond", func(g *api.Grammar) { g.Makes[2].To = []int{math.MaxInt} }, api.ErrRange},
		{"a sign far below", func(g *api.Grammar) { g.Makes[2].To = []int{math.MinInt} }, api.ErrRange},
	}
}

// Q1: what Check says, and the others with it.
func TestRefuses(t *testing.T) {
	for _, c := range changes() {
		g := mixed()
		c.do(&g)
		refused(t, c.name, g, c.want)
	}
}

// Q1: where several things are wrong, the first one is told; the rules are looked at one by one.
func TestFirstIsTold(t *testing.T) {
	wrong := []int{9}
	long := []int{9, 0, 0, 0}
	for _, x := range []struct {
		name string
		g    api.Grammar
		want api.Errno
	}{
		{"letters ahead of names", api.Grammar{}, api.ErrRange},
		{"letters ahead of rules", api.Grammar{Letters: 5, Names: 1, Makes: make([]api.Make, 21)}, api.ErrRange},
		{"letters ahead of a rule", api.Grammar{Letters: 5, Names: 1, Makes: []api.Make{{To: long}}}, api.ErrRange},
		{"names ahead of a rule", api.Grammar{Letters: 1, Makes: []api.Make{{From: -1}}}, api.ErrSize},
		{"rules ahead of a rule", api.Grammar{Letters: 1, Names: 1, Makes: slices.Repeat([]api.Make{{From: 1}}, 21)}, api.ErrSize},
		{"From ahead of To", api.Grammar{Letters: 1, Names: 1, Makes: []api.Make{{From: 1, To: long}}}, api.ErrRange},
		{"how many ahead of which", api.Grammar{Letters: 1, Names: 1, Makes: []api.Make{{To: long}}}, api.ErrSize},
		{"many ahead of a later From", api.Grammar{Letters: 1, Names: 1, Makes: []api.Make{{To: long}, {From: 1}}}, api.ErrSize},
		{"a sign ahead of a later To", api.Grammar{Letters: 1, Names: 1, Makes: []api.Make{{To: wrong}, {To: long}}}, api.ErrRange},
		{"many ahead of a later sign", api.Grammar{Letters: 1, Names: 1, Makes: []api.Make{{}, {To: long}, {To: wrong}}}, api.ErrSize},
		{"From ahead of a later To", api.Grammar{Letters: 1, Names: 1, Makes: []api.Make{{From: 2}, {To: long}}}, api.ErrRange},
	} {
		refused(t, x.name, x.g, x.want)
	}
}

// Q1: all that may be, at its limits.
func TestMayBe(t *testing.T) {
	for _, g := range []api.Grammar{
		pairs(), mixed(), {Letters: 1, Names: 1}, {Letters: 4, Names: 6},
		{Letters: 4, Names: 6, Makes: slices.Repeat([]api.Make{{From: 5, To: []int{9, 3, 4}}}, 20)},
	} {
		if e := gram.Check(g); e != api.OK {
			t.Error(g, e)
		}
	}
}

// Q2, by hand.
func TestTells(t *testing.T) {
	for _, x := range []struct {
		g    api.Grammar
		word string
		want bool
	}{
		{pairs(), "", true},
		{pairs(), "ab", true},
		{pairs(), "aaaaaabbbbbb", true},
		{pairs(), "aaaaaaabbbbb", false},
		{pairs(), "ba", false},
		{pairs(), "a", false},
		{mixed(), "b", true},
		{mixed(), "aab", true},
		{mixed(), "abbb", true},
		{mixed(), "aabaabb", true},
		{mixed(), "", false},
		{mixed(), "abb", false},
		{read(1, 1), "", false},
		{read(1, 1), "a", false},
		{read(1, 1, "A>A"), "", false},
		{read(1, 1, "A>"), "", true},
		{read(1, 1, "A>"), "a", false},
		{read(1, 2, "B>a"), "a", false},
		{read(4, 6, "A>F", "F>dcb"), "dcb", true},
		{read(4, 6, "A>F", "F>dcb"), "dca", false},
		{read(1, 1, "A>AAA", "A>a"), "aaaaaaaaaaa", true},
		{read(1, 1, "A>AAA", "A>a"), "aaaaaaaaaaaa", false},
		{read(1, 2, "A>AB", "A>A", "B>A", "A>", "B>B", "B>a"), "aaaaaaaaaaaa", true},
		{read(2, 3, "A>BAC", "A>a", "B>", "C>", "B>A"), "aa", true},
		{read(2, 3, "A>BAC", "A>a", "B>", "C>", "B>A"), "ab", false},
	} {
		w := letters(x.word)
		cost := 0
		if x.want {
			cost = 1
		}
		holdTells(t, x.g, w, cost)
	}
}

// Q2: where there is one way alone, it is that one.
func TestTellsBy(t *testing.T) {
	for _, x := range []struct {
		g    api.Grammar
		word string
		want []int
	}{
		{pairs(), "", []int{1}},
		{pairs(), "aabb", []int{0, 0, 1}},
		{mixed(), "b", []int{0, 2, 4}},
		{mixed(), "abab", nil},
		{mixed(), "ababb", []int{0, 1, 2, 3, 0, 1, 2, 4}},
		{read(1, 3, "C>a", "B>", "A>CBC"), "aa", []int{2, 0, 1, 0}},
	} {
		l, tells, e := gram.Tells(x.g, letters(x.word))
		if !slices.Equal(l, x.want) || tells != (len(x.want) > 0) || e != api.OK {
			t.Error(x.g, x.word, l, tells, e, x.want)
		}
	}
}

// Q2: what May says of the word; then more than 12 letters.
func TestTellsRefuses(t *testing.T) {
	for _, x := range []struct {
		name string
		w    []int
		want api.Errno
	}{
		{"12 letters", make([]int, 12), api.OK},
		{"13 letters", make([]int, 13), api.ErrSize},
		{"60 letters", make([]int, 60), api.ErrSize},
		{"61 letters", make([]int, 61), api.ErrSize},
		{"61 wrong ones", slices.Repeat([]int{2}, 61), api.ErrSize},
		{"very many wrong ones", slices.Repeat([]int{2}, 1<<20), api.ErrSize},
		{"13 wrong ones", slices.Repeat([]int{2}, 13), api.ErrRange},
		{"60 wrong ones", slices.Repeat([]int{-1}, 60), api.ErrRange},
		{"a name is no letter", []int{0, 2}, api.ErrRange},
		{"a letter below", []int{-1}, api.ErrRange},
		{"a letter far beyond", []int{math.MaxInt}, api.ErrRange},
		{"a letter far below", []int{math.MinInt}, api.ErrRange},
	} {
		if l, tells, e := gram.Tells(pairs(), x.w); len(l) > 0 || tells || e != x.want {
			t.Error(x.name, l, tells, e, x.want)
		}
	}
}

// Q2: ways of 2000 rules, and of 2001: from a name to no letters it takes many.
func TestTellsFull(t *testing.T) {
	even := read(2, 6, "A>aFC", "A>bBB", "A>AAE", "B>CCC", "C>DDD", "D>EEE", "E>FF", "F>")
	odd := read(2, 6, "A>aDB", "A>bBB", "A>AAB", "B>CCC", "C>DDD", "D>FFE", "E>FF", "F>")
	for _, x := range []struct {
		g    api.Grammar
		word string
		want int
	}{
		{even, "aabbbbbbbbbb", 2000},
		{even, "abbbbbabbbbb", 2000},
		{even, "abbbbbbbbbbb", 2156},
		{even, "bbbbbbbbbb", 1926},
		{even, "", 0},
		{odd, "abbbbbbbbbbb", 2001},
		{odd, "bbbbbbbbbbba", 2001},
		{odd, "aabbbbbbbbbb", 1949},
		{odd, "bbbbbbbbbbbb", 2053},
	} {
		if cost := fewest(x.g, x.word); cost != x.want {
			t.Fatal(x.word, cost, x.want)
		}
		holdTells(t, x.g, letters(x.word), x.want)
		l, tells, e := gram.Tells(x.g, letters(x.word))
		if x.want > 0 && x.want <= 2000 && (len(l) != x.want || !tells || e != api.OK) {
			t.Error(x.word, len(l), tells, e)
		}
	}
	// A shorter way beside the long one.
	short := even
	short.Makes = append(slices.Clone(even.Makes), api.Make{To: []int{0}}, api.Make{To: []int{1}}, api.Make{To: []int{2, 2}})
	holdTells(t, short, letters("abbbbbbbbbbb"), fewest(short, "abbbbbbbbbbb"))
}

// fewest answers how many rules it takes to come to a word of the letters a and b, of a grammar of which it does not
// matter how the letters stand: so each is told by how often each comes.
func fewest(g api.Grammar, text string) int {
	type count [2]int
	goal := count{strings.Count(text, "a"), strings.Count(text, "b")}
	costs := make([]map[count]int, g.Names)
	for n := range costs {
		costs[n] = map[count]int{}
	}
	for grew := true; grew; {
		grew = false
		for _, m := range g.Makes {
			row := map[count]int{{}: 1}
			for _, sign := range m.To {
				one := map[count]int{{1 - sign, sign}: 0}
				if sign >= g.Letters {
					one = costs[sign-g.Letters]
				}
				next := map[count]int{}
				for v, c := range row {
					for w, d := range one {
						sum := count{v[0] + w[0], v[1] + w[1]}
						if old, known := next[sum]; sum[0] <= goal[0] && sum[1] <= goal[1] && (!known || c+d < old) {
							next[sum] = c + d
						}
					}
				}
				row = next
			}
			for v, c := range row {
				if old, known := costs[m.From][v]; !known || c < old {
					costs[m.From][v], grew = c, true
				}
			}
		}
	}
	return costs[0][goal]
}

// Q2: of one letter, up to 12 of them, also where it takes many rules.
func TestTellsOneLetter(t *testing.T) {
	x := dice(1)
	var kinds [3]int
	for i := range 400 {
		g := x.grammar(1, 1+x.roll(6), x.roll(21), 1+x.roll(4))
		if i%2 == 0 {
			g = x.costly()
		}
		all := tell(g, 12)
		for n := range 13 {
			cost := all[0][strings.Repeat("a", n)]
			holdTells(t, g, make([]int, n), cost)
			if cost > 2000 {
				kinds[2]++
			} else {
				kinds[min(cost, 1)]++
			}
		}
	}
	if slices.Min(kinds[:]) < 50 {
		t.Error("too few of one kind:", kinds)
	}
}

// costly answers one that comes to no letters by many rules alone, and to letters with such beside them.
func (x *dice) costly() api.Grammar {
	names := func(from int) string {
		var b strings.Builder
		for range 2 + x.roll(2) {
			b.WriteByte("ABCDEF"[min(from+x.roll(7)/6, 5)])
		}
		return b.String()
	}
	rules := []string{"A>AA" + names(1)[:1], "A>a" + names(1)[:2], "B>" + names(2), "C>" + names(3), "D>" + names(4), "E>" + names(5), "F>"}
	if x.roll(2) == 0 {
		rules = append(rules, "A>a"+names(2)[:2])
	}
	return read(1, 6, rules...)
}

// Q2: of more letters, all words of up to 6 letters, or less.
func TestTellsAllShort(t *testing.T) {
	x := dice(2)
	told, not := 0, 0
	for i := range 240 {
		many := 2 + i%3
		g := x.grammar(many, 1+x.roll(6), 2+x.roll(19), 1+x.roll(2))
		most := []int{6, 4, 3}[many-2]
		all := tell(g, most)
		for n := range most + 1 {
			words(many, n, func(w []int) {
				cost := all[0][write(w)]
				holdTells(t, g, w, cost)
				if cost > 0 {
					told++
				} else {
					not++
				}
			})
		}
	}
	if min(told, not) < 1000 {
		t.Error("too few of one kind:", told, not)
	}
}

// Q2: longer words that are told, and such with one letter changed.
func TestTellsLong(t *testing.T) {
	x := dice(3)
	n := 0
	for range 2000 {
		g := x.grammar(1+x.roll(4), 1+x.roll(6), 4+x.roll(17), 1)
		row := []int{g.Letters}
		for range 60 {
			at := slices.IndexFunc(row, func(sign int) bool { return sign >= g.Letters })
			if at < 0 || len(row) > 24 {
				break
			}
			var fit []api.Make
			for _, m := range g.Makes {
				if m.From == row[at]-g.Letters {
					fit = append(fit, m)
				}
			}
			if len(fit) == 0 {
				break
			}
			row = slices.Concat(row[:at], fit[x.roll(len(fit))].To, row[at+1:])
		}
		if len(row) > 12 || len(row) < 5 || slices.Max(row) >= g.Letters {
			continue
		}
		n++
		holdTells(t, g, row, 1)
		row[x.roll(len(row))] = x.roll(g.Letters)
		if l, tells, e := gram.Tells(g, row); tells {
			holdTells(t, g, row, 1)
		} else if len(l) > 0 || e != api.OK {
			t.Fatal(g, row, l, e)
		}
	}
	if n < 80 {
		t.Error("too few:", n)
	}
}

// Q3: Some, by hand.
func TestSome(t *testing.T) {
	sixty := []string{"A>BBB", "B>CC", "C>DD", "D>aaE", "E>aaa"}
	for _, x := range []struct {
		name string
		g    api.Grammar
		want string
		some bool
	}{
		{"the example", pairs(), "", true},
		{"none", read(1, 1), "", false},
		{"never an end", read(1, 2, "A>aB", "B>A", "A>AA"), "", false},
		{"of another name alone", read(1, 2, "B>a"), "", false},
		{"shorter ahead of earlier", read(2, 1, "A>aa", "A>b"), "b", true},
		{"earlier ahead of later", read(3, 1, "A>cab", "A>bca", "A>bcb", "A>cca"), "bca", true},
		{"by more rules", read(2, 3, "A>b", "A>B", "B>C", "C>aA", "C>a"), "a", true},
		{"first ones of first ones", read(4, 3, "A>BCB", "B>dc", "B>bcc", "B>cd", "C>aaa", "C>ddd", "C>db"), "cddbcd", true},
		{"the last letter tells", read(4, 2, "A>aB", "B>c", "B>b", "A>ad"), "ab", true},
		{"no letters within", read(2, 3, "A>BCB", "B>", "B>a", "C>bb", "C>bB"), "b", true},
		{"60 letters", read(1, 5, sixty...), strings.Repeat("a", 60), true},
	} {
		w, some, e := gram.Some(x.g)
		if write(w) != x.want || some != x.some || e != api.OK {
			t.Error(x.name, w, some, e, x.want)
		}
	}
	for _, x := range []struct {
		name string
		g    api.Grammar
	}{
		{"61 letters", read(1, 6, append([]string{"A>Fa", "F>BBB"}, sixty[1:]...)...)},
		{"729 letters", read(1, 6, "A>BBB", "B>CCC", "C>DDD", "D>EEE", "E>FFF", "F>aaa")},
		{"longer by any rule", read(2, 6, "A>bF", "A>Fa", "F>BBB", "B>CC", "C>DD", "D>aaE", "E>aaa", "E>bbb")},
	} {
		if w, some, e := gram.Some(x.g); len(w) > 0 || some || e != api.ErrFull {
			t.Error(x.name, w, some, e)
		}
	}
	// What goes beyond 60 letters does not bar what does not.
	w, some, e := gram.Some(read(1, 6, append([]string{"A>Fa", "F>BBB", "F>BB"}, sixty[1:]...)...))
	if len(w) != 41 || !some || e != api.OK {
		t.Error(w, some, e)
	}
}

// Q3: Some, held against all short words, and against how many letters there are.
func TestSomeAtAnything(t *testing.T) {
	x := dice(4)
	var kinds [4]int
	for i := range 3000 {
		many := 1 + i%4
		g := x.grammar(many, 1+x.roll(6), x.roll(21), 1+x.roll(4))
		if i%5 < 2 {
			g = x.growing(many)
		}
		long := shortest(g, everything(many))
		most := min(long, []int{60, 8, 6, 5}[many-1])
		w, some, e := gram.Some(g)
		holdFirst(t, g, tell(g, most), most, long, any, w, some, e)
		switch {
		case long < 0:
			kinds[0]++
		case long < 3:
			kinds[1]++
		case long <= 60:
			kinds[2]++
		default:
			kinds[3]++
		}
	}
	if slices.Min(kinds[:]) < 50 {
		t.Error("too few of one kind:", kinds)
	}
}

// growing answers one of which each name becomes names behind it, so that words are long.
func (x *dice) growing(many int) api.Grammar {
	g := api.Grammar{Letters: many, Names: 6}
	for range 1 + x.roll(2) {
		for n := range 6 {
			m := api.Make{From: n}
			for range 1 + x.roll(3) {
				if n < 5 && x.roll(8) > 0 {
					m.To = append(m.To, many+n+1)
				} else {
					m.To = append(m.To, x.roll(many))
				}
			}
			g.Makes = append(g.Makes, m)
		}
	}
	return g
}

// Q3: Useful, by hand.
func TestUseful(t *testing.T) {
	for _, x := range []struct {
		name      string
		g         api.Grammar
		ends, met string
	}{
		{"the example", pairs(), "[1]", "[1]"},
		{"no rules", read(1, 3), "[0 0 0]", "[0 0 0]"},
		{"0 does not end", read(1, 3, "A>BA", "B>a", "A>C"), "[0 1 0]", "[0 0 0]"},
		{"not met", read(1, 3, "A>a", "B>a", "C>C"), "[1 1 0]", "[1 0 0]"},
		{"beside what does not end", read(1, 3, "A>a", "A>BC", "B>a"), "[1 1 0]", "[1 0 0]"},
		{"ahead of what does not end", read(1, 4, "A>a", "A>aBC", "B>D", "D>"), "[1 1 0 1]", "[1 0 0 0]"},
		{"by another rule", read(1, 4, "A>a", "A>BC", "B>D", "D>", "A>aB"), "[1 1 0 1]", "[1 1 0 1]"},
		{"behind others", read(1, 4, "A>BCD", "B>", "C>", "D>a"), "[1 1 1 1]", "[1 1 1 1]"},
		{"round", read(1, 3, "A>B", "B>C", "C>A"), "[0 0 0]", "[0 0 0]"},
		{"round, with an end", read(1, 3, "A>B", "B>C", "C>A", "B>"), "[1 1 1]", "[1 1 1]"},
		{"from what is not met", read(1, 3, "A>", "B>C", "C>a"), "[1 1 1]", "[1 0 0]"},
		{"all six", read(4, 6, "A>B", "B>C", "C>D", "D>E", "E>F", "F>d"), "[1 1 1 1 1 1]", "[1 1 1 1 1 1]"},
		{"too long for Some", read(1, 6, "A>BBB", "B>CCC", "C>DDD", "D>EEE", "E>FFF", "F>aaa"), "[1 1 1 1 1 1]", "[1 1 1 1 1 1]"},
	} {
		ends, met, e := gram.Useful(x.g)
		if fmt.Sprint(ends) != x.ends || fmt.Sprint(met) != x.met || e != api.OK {
			t.Error(x.name, ends, met, e)
		}
	}
}

// Q3: Useful, held against all that one can come to.
func TestUsefulAtAnything(t *testing.T) {
	x := dice(5)
	var kinds [2][2]int
	for i := range 900 {
		names := 1 + i%3
		g := x.grammar(1, names, x.roll(7), 3)
		ends, ones, e := gram.Useful(g)
		if e != api.OK || len(ends) != names || len(ones) != names {
			t.Fatal(g, ends, ones, e)
		}
		for n := range names {
			is, _ := met(g, n, 9)
			if is != (ends[n] == 1) || ends[n] > 1 {
				t.Fatal(g, ends, n, is)
			}
			kinds[ends[n]][ones[n]]++
		}
		if _, want := met(g, 0, 9); !slices.Equal(ones, want) {
			t.Fatal(g, ones, want)
		}
	}
	if min(kinds[0][0], kinds[1][0], kinds[1][1]) < 100 || kinds[0][1] > 0 {
		t.Error("kinds:", kinds)
	}
}

// Q3: Endless, by hand.
func TestEndless(t *testing.T) {
	for _, x := range []struct {
		name string
		g    api.Grammar
		want bool
	}{
		{"the example", pairs(), true},
		{"no rules", read(1, 1), false},
		{"one word", read(1, 1, "A>"), false},
		{"no word", read(1, 1, "A>aA"), false},
		{"a letter again and again", read(1, 1, "A>aA", "A>"), true},
		{"on the other side", read(1, 1, "A>Aa", "A>a"), true},
		{"itself alone", read(1, 1, "A>A", "A>a"), false},
		{"itself twice, with no letters", read(1, 1, "A>AA", "A>"), false},
		{"itself twice", read(1, 1, "A>AA", "A>a"), true},
		{"itself beside no letters", read(1, 2, "A>BAB", "A>a", "B>"), false},
		{"itself beside some", read(1, 2, "A>BAB", "A>a", "B>", "B>a"), true},
		{"itself beside what does not end", read(1, 2, "A>BA", "A>a", "B>aB"), false},
		{"itself beside letters and what does not end", read(1, 2, "A>aAB", "A>a", "B>aB"), false},
		{"round", read(1, 3, "A>B", "B>C", "C>aA", "C>"), true},
		{"round without letters", read(1, 3, "A>B", "B>C", "C>A", "C>a"), false},
		{"not met", read(1, 2, "A>a", "B>aB", "B>"), false},
		{"met beside what does not end", read(1, 3, "A>a", "A>BC", "B>aB", "B>"), false},
		{"met", read(1, 2, "A>B", "B>aB", "B>"), true},
		{"met, but 0 does not end", read(1, 2, "A>BA", "B>aB", "B>"), false},
		{"not round", read(1, 3, "A>aB", "B>aC", "C>aaa", "A>BC"), false},
		{"very many, but not endless", read(4, 6, "A>BBB", "B>CCC", "C>DDD", "D>EEE", "E>FFF", "F>abc", "F>", "F>d"), false},
		{"round at the end", read(1, 6, "A>B", "B>C", "C>D", "D>E", "E>F", "F>Fa", "F>"), true},
	} {
		if is, e := gram.Endless(x.g); is != x.want || e != api.OK || goesOn(x.g) != x.want {
			t.Error(x.name, is, e, goesOn(x.g))
		}
	}
}

// Q3: Endless, held against how many letters words have.
func TestEndlessAtAnything(t *testing.T) {
	x := dice(6)
	var kinds [2]int
	for i := range 1500 {
		g := x.grammar(1+x.roll(4), 1+x.roll(4), x.roll(12), 1+x.roll(6))
		if i%30 == 0 {
			g = x.grammar(1, 5+x.roll(2), 6+x.roll(15), 9)
		}
		is, e := gram.Endless(g)
		if is != goesOn(g) || e != api.OK {
			t.Fatal(g, is, e)
		}
		if is {
			kinds[1]++
		} else if _, some, _ := gram.Some(g); some {
			kinds[0]++
		}
	}
	if min(kinds[0], kinds[1]) < 200 {
		t.Error("too few of one kind:", kinds)
	}
}

// Q4, by hand.
func TestBoth(t *testing.T) {
	// words that begin with the letter b
	b := api.Det{Letters: 2, Next: [][]int{{2, 1}, {1, 1}, {2, 2}}, Mark: []int{0, 1, 0}}
	fifteens := read(1, 4, "A>BA", "A>B", "B>CCC", "C>aaD", "D>aaa")
	other := ring(2, 2, 0)
	other.Start = 1
	for _, x := range []struct {
		name string
		g    api.Grammar
		d    api.Det
		want string
		some bool
	}{
		{"all", pairs(), everything(2), "", true},
		{"none", pairs(), ring(2, 4), "", false},
		{"odd", pairs(), ring(2, 2, 1), "", false},
		{"two of four", pairs(), ring(2, 4, 2), "ab", true},
		{"two or none", pairs(), ring(2, 4, 2, 0), "", true},
		{"no multiple of three", pairs(), ring(2, 3, 1), "aabb", true},
		{"begins with b", pairs(), b, "", false},
		{"begins with b, too", mixed(), b, "b", true},
		{"another start", mixed(), other, "b", true},
		{"tells none", read(2, 1), everything(2), "", false},
		{"accepted at two states", read(3, 1, "A>cb", "A>ca", "A>bbc"), ring(3, 4, 2, 3), "ca", true},
		{"60 letters", fifteens, ring(1, 4, 0), strings.Repeat("a", 60), true},
		{"15 letters", fifteens, ring(1, 4, 0, 3), strings.Repeat("a", 15), true},
	} {
		w, some, e := gram.Both(x.g, x.d)
		if write(w) != x.want || some != x.some || e != api.OK {
			t.Error(x.name, w, some, e, x.want)
		}
	}
}

// Q4: more than 60 letters.
func TestBothFull(t *testing.T) {
	fifteens := []string{"A>BA", "A>B", "B>CCC", "C>aaD", "D>aaa"}
	threes := read(1, 6, "A>BBB", "A>B", "B>CCC", "C>DDD", "D>EEE", "E>FFF", "F>aaa")
	for _, x := range []struct {
		name string
		g    api.Grammar
		d    api.Det
		want int
	}{
		{"four times 15", read(1, 4, fifteens...), ring(1, 4, 0), 60},
		{"three times 21", read(1, 5, "A>BA", "A>B", "B>CCC", "C>aaD", "D>Eaa", "E>aaa"), ring(1, 4, 3), 63},
		{"twice 21", read(1, 5, "A>BA", "A>B", "B>CCC", "C>aaD", "D>Eaa", "E>aaa"), ring(1, 4, 2), 42},
		{"243", threes, everything(1), 243},
		{"729", threes, ring(1, 4, 1), 729},
	} {
		if long := shortest(x.g, x.d); long != x.want {
			t.Fatal(x.name, long)
		}
		w, some, e := gram.Both(x.g, x.d)
		if x.want > 60 && (len(w) > 0 || some || e != api.ErrFull) || x.want <= 60 && (len(w) != x.want || !some || e != api.OK) {
			t.Error(x.name, w, some, e)
		}
	}
}

// Q4: one letter more than may be, beside such as may be.
func TestBothFullByOne(t *testing.T) {
	g := read(1, 6, "A>aB", "B>CB", "B>C", "C>DDD", "D>aaE", "E>aaa")
	for _, x := range []struct {
		good, want int
	}{{0, 16}, {1, 61}, {2, 46}, {3, 31}} {
		d := ring(1, 4, x.good)
		w, some, e := gram.Both(g, d)
		if x.want > 60 && (len(w) > 0 || some || e != api.ErrFull) || x.want <= 60 && (len(w) != x.want || !some || e != api.OK) {
			t.Error(x.good, w, some, e)
		}
	}
}

// Q4: C1's error of d, then what does not fit.
func TestBothRefuses(t *testing.T) {
	broken := func(do func(d *api.Det)) api.Det {
		d := ring(2, 4, 1)
		do(&d)
		return d
	}
	for _, x := range []struct {
		name string
		d    api.Det
		want api.Errno
	}{
		{"four states", ring(2, 4), api.OK},
		{"five states", ring(2, 5), api.ErrSize},
		{"3000 states", ring(2, 3000), api.ErrSize},
		{"3001 states", ring(2, 3001), api.ErrSize},
		{"one letter", ring(1, 4), api.ErrShape},
		{"three letters", ring(3, 4), api.ErrShape},
		{"one letter, five states", ring(1, 5), api.ErrShape},
		{"one letter, 3001 states", ring(1, 3001), api.ErrSize},
		{"nothing", api.Det{}, api.ErrRange},
		{"five letters", ring(5, 4), api.ErrRange},
		{"letters far beyond", broken(func(d *api.Det) { d.Letters = math.MaxInt }), api.ErrRange},
		{"no states", api.Det{Letters: 2}, api.ErrSize},
		{"no states, other letters", api.Det{Letters: 1}, api.ErrSize},
		{"less marks", broken(func(d *api.Det) { d.Mark = d.Mark[:3] }), api.ErrShape},
		{"a short row", broken(func(d *api.Det) { d.Next[3] = d.Next[3][:1] }), api.ErrShape},
		{"no state", broken(func(d *api.Det) { d.Next[3][1] = 4 }), api.ErrRange},
		{"a state below", broken(func(d *api.Det) { d.Next[0][0] = -1 }), api.ErrRange},
		{"no start", broken(func(d *api.Det) { d.Start = 4 }), api.ErrRange},
		{"start far below", broken(func(d *api.Det) { d.Start = math.MinInt }), api.ErrRange},
		{"a mark of two", broken(func(d *api.Det) { d.Mark[0] = 2 }), api.ErrRange},
		{"a mark below", broken(func(d *api.Det) { d.Mark[3] = -1 }), api.ErrRange},
		{"one letter, a mark of two", api.Det{Letters: 1, Next: [][]int{{0}}, Mark: []int{2}}, api.ErrRange},
	} {
		if w, some, e := gram.Both(pairs(), x.d); len(w) > 0 || some || e != x.want {
			t.Error(x.name, w, some, e, x.want)
		}
	}
}

// Q4, held against all short words, and against how many letters there are.
func TestBothAtAnything(t *testing.T) {
	x := dice(7)
	var kinds [4]int
	for i := range 5000 {
		many := 1 + i%4
		g := x.grammar(many, 1+x.roll(6), x.roll(21), 1+x.roll(4))
		if i%5 < 2 {
			g = x.growing(many)
		}
		d := x.det(many, 1+x.roll(4))
		long := shortest(g, d)
		most := min(long, []int{60, 8, 6, 5}[many-1])
		good := func(w string) bool { return accepts(d, letters(w)) }
		w, some, e := gram.Both(g, d)
		holdFirst(t, g, tell(g, most), most, long, good, w, some, e)
		switch {
		case long < 0:
			kinds[0]++
		case long < 3:
			kinds[1]++
		case long <= 60:
			kinds[2]++
		default:
			kinds[3]++
		}
	}
	if slices.Min(kinds[:]) < 50 {
		t.Error("too few of one kind:", kinds)
	}
}

// Q4: what Both and Tells say of one word alone is the same.
func TestBothIsTells(t *testing.T) {
	x := dice(8)
	for range 400 {
		g := x.grammar(1+x.roll(4), 1+x.roll(6), x.roll(21), 2)
		w := x.word(g.Letters, x.roll(3))
		d := alone(g.Letters, w)
		v, some, e := gram.Both(g, d)
		_, tells, f := gram.Tells(g, w)
		if e != api.OK || f != api.OK || some != tells || some && !slices.Equal(v, w) {
			t.Fatal(g, w, v, some, e, tells, f)
		}
	}
}

// alone accepts a word of at most two letters, and no other.
func alone(many int, w []int) api.Det {
	d := api.Det{Letters: many}
	dead := len(w) + 1
	for s := range dead + 1 {
		row := slices.Repeat([]int{dead}, many)
		if s < len(w) {
			row[w[s]] = s + 1
		}
		d.Next, d.Mark = append(d.Next, row), append(d.Mark, 0)
	}
	d.Mark[len(w)] = 1
	return d
}

// Q5, by hand.
func TestMany(t *testing.T) {
	all := read(4, 1, "A>", "A>aA", "A>bA", "A>cA", "A>dA")
	for _, x := range []struct {
		name string
		g    api.Grammar
		want [6]int
	}{
		{"the example", pairs(), [6]int{1, 0, 1, 0, 1, 0}},
		{"no rules", read(1, 1), [6]int{}},
		{"no letters", read(1, 1, "A>"), [6]int{1}},
		{"all words of four letters", all, [6]int{1, 4, 16, 64, 256, 1024}},
		{"all words of three letters", read(3, 1, "A>", "A>aA", "A>bA", "A>cA"), [6]int{1, 3, 9, 27, 81, 243}},
		{"all words, in many ways", read(4, 2, "A>AAA", "A>AA", "A>", "A>B", "B>a", "B>b", "B>c", "B>d"), [6]int{1, 4, 16, 64, 256, 1024}},
		{"a word is counted once", read(1, 2, "A>a", "A>B", "B>a", "A>aa", "A>BB", "A>a"), [6]int{0, 1, 1}},
		{"palindromes", read(2, 1, "A>", "A>a", "A>b", "A>aAa", "A>bAb"), [6]int{1, 2, 2, 4, 4, 8}},
		{"five letters", read(4, 2, "A>abB", "B>cda"), [6]int{0, 0, 0, 0, 0, 1}},
		{"six letters", read(4, 2, "A>BB", "B>cda"), [6]int{}},
		{"other names do not count", read(2, 2, "A>a", "B>b", "B>ab"), [6]int{0, 1}},
		{"no letters within", read(1, 2, "A>BBB", "B>", "B>a"), [6]int{1, 1, 1, 1}},
		{"some in more ways than others", read(2, 2, "A>BBB", "B>a", "B>aa", "B>b"), [6]int{0, 0, 0, 8, 8, 4}},
	} {
		for n, want := range x.want {
			if got, e := gram.Many(x.g, n); got != want || e != api.OK {
				t.Error(x.name, n, got, e, want)
			}
		}
	}
}

// Q5: what n may be.
func TestManyRefuses(t *testing.T) {
	for _, n := range []int{-1, 6, 60, math.MaxInt, math.MinInt} {
		if many, e := gram.Many(read(1, 1, "A>", "A>aA"), n); many != 0 || e != api.ErrRange {
			t.Error(n, many, e)
		}
	}
}

// Q5, held against all words.
func TestManyAtAnything(t *testing.T) {
	x := dice(9)
	var counts [5]int
	for i := range 1200 {
		g := x.grammar(1+i%4, 1+x.roll(6), x.roll(21), 1+x.roll(2))
		all := tell(g, min(5, 7-g.Letters))
		for n := range min(5, 7-g.Letters) + 1 {
			got, e := gram.Many(g, n)
			if want := all.many(n); got != want || e != api.OK {
				t.Fatal(g, n, got, e, want)
			}
			counts[min(got, 4)]++
		}
	}
	if slices.Min(counts[:]) < 100 {
		t.Error("too few of one kind:", counts)
	}
}

// Q5: as many as Tells tells.
func TestManyIsTells(t *testing.T) {
	x := dice(10)
	for range 12 {
		g := x.grammar(4, 3+x.roll(4), 16+x.roll(5), 1)
		sum := 0
		words(4, 5, func(w []int) {
			if _, tells, _ := gram.Tells(g, w); tells {
				sum++
			}
		})
		if got, e := gram.Many(g, 5); got != sum || e != api.OK {
			t.Fatal(g, got, e, sum)
		}
	}
}

// answers is all that is said of a grammar, in writing.
func answers(g api.Grammar, w []int, d api.Det, n int) string {
	l, tells, e := gram.Tells(g, w)
	out := fmt.Sprint(gram.Check(g), len(l), tells, e)
	v, some, e := gram.Some(g)
	out += fmt.Sprint(v, some, e)
	ends, met, e := gram.Useful(g)
	out += fmt.Sprint(ends, met, e)
	is, e := gram.Endless(g)
	out += fmt.Sprint(is, e)
	v, some, e = gram.Both(g, d)
	out += fmt.Sprint(v, some, e)
	many, e := gram.Many(g, n)
	return out + fmt.Sprint(many, e)
}

// roomy has the same lists, with room behind each that is not to be touched, and whose content does not matter.
func roomy(l []int) []int {
	out := append(slices.Clone(l), 7, 7, 7, 7)
	return out[:len(l)]
}

func copied(g api.Grammar) api.Grammar {
	makes := make([]api.Make, len(g.Makes), len(g.Makes)+3)
	for r, m := range g.Makes {
		makes[r] = api.Make{From: m.From, To: roomy(m.To)}
	}
	g.Makes = makes
	return g
}

// What is handed in is neither changed nor written behind.
func TestLeavesAlone(t *testing.T) {
	x := dice(11)
	for range 300 {
		g := x.grammar(1+x.roll(4), 1+x.roll(6), x.roll(21), 2)
		w, d := x.word(g.Letters, x.roll(13)), x.det(g.Letters, 4)
		h, v := copied(g), roomy(w)
		n := x.roll(6)
		first := answers(g, w, d, n)
		if again := answers(h, v, d, n); again != first {
			t.Fatal(g, w, d, n, first, again)
		}
		for r, m := range h.Makes {
			if !slices.Equal(m.To, g.Makes[r].To) || !slices.Equal(m.To[len(m.To):len(m.To)+4], []int{7, 7, 7, 7}) || m.From != g.Makes[r].From {
				t.Fatal(g, h)
			}
		}
		if !slices.Equal(v[:len(v)+4], append(slices.Clone(w), 7, 7, 7, 7)) {
			t.Fatal(w, v)
		}
		for _, m := range h.Makes[:len(h.Makes)+3][len(h.Makes):] {
			if m.From != 0 || m.To != nil {
				t.Fatal(h)
			}
		}
	}
}

// What comes out is new memory: it can be written upon, and nothing else changes.
func TestAnswersNewMemory(t *testing.T) {
	spoil := func(l []int) {
		l = l[:cap(l)]
		for i := range l {
			l[i] = 99
		}
	}
	g, w := read(1, 1, "A>a"), []int{0}
	d := everything(1)
	h, v, c := copied(g), slices.Clone(w), everything(1)
	for range 2 {
		l, _, _ := gram.Tells(g, w)
		some, _, _ := gram.Some(g)
		both, _, _ := gram.Both(g, d)
		ends, met, e := gram.Useful(g)
		if !slices.Equal(l, []int{0}) || !slices.Equal(some, w) || !slices.Equal(both, w) || e != api.OK {
			t.Fatal(l, some, both)
		}
		spoil(ends)
		if !slices.Equal(met, []int{1}) {
			t.Error("ends and met share memory:", met)
		}
		for _, x := range [][]int{l, some, both, met} {
			spoil(x)
		}
		if !reflect.DeepEqual(g, h) || !slices.Equal(w, v) || !reflect.DeepEqual(d, c) {
			t.Fatal("an answer shares memory with what was handed in:", g, w, d)
		}
	}
}

// Every call ends and none panics, whatever it is given; errors come with nothing else.
func TestAnythingAtAll(t *testing.T) {
	x := dice(12)
	odd := []int{math.MinInt, -1, 0, 1, 2, 3, 4, 5, 6, 7, 9, 12, 13, 60, 61, math.MaxInt}
	number := func() int {
		if x.roll(3) > 0 {
			return x.roll(6)
		}
		return odd[x.roll(len(odd))]
	}
	list := func(most int) []int {
		var l []int
		for range x.roll(most + 1) {
			l = append(l, number())
		}
		return l
	}
	for range 20000 {
		g := api.Grammar{Letters: number(), Names: number()}
		for range x.roll(4) {
			g.Makes = append(g.Makes, api.Make{From: number(), To: list(4)})
		}
		d := api.Det{Letters: g.Letters, Start: number(), Mark: list(3)}
		for range x.roll(4) {
			d.Next = append(d.Next, list(4))
		}
		w := list(14)
		answers(g, w, d, number())
		if l, tells, e := gram.Tells(g, w); e != api.OK && (len(l) > 0 || tells) {
			t.Fatal(g, w, l, tells, e)
		}
		if v, some, e := gram.Both(g, d); e != api.OK && (len(v) > 0 || some) {
			t.Fatal(g, d, v, some, e)
		}
	}
}

// The largest grammars, in which all is told in very many ways, have an end as well.
func TestLargest(t *testing.T) {
	name := func(i int) string { return "ABCDEF"[i%6 : i%6+1] }
	for _, ends := range []string{"aaaaaa", "a-----", "-----a", "abcd--", "------"} {
		var rules []string
		for i := range 14 {
			rules = append(rules, name(i)+">"+name(i+1)+name(5*i+i/6)+name(2*i+1))
		}
		for i, b := range ends {
			rules = append(rules, name(i)+">"+strings.Trim(string(b), "-"))
		}
		g := read(4, 6, rules...)
		d := ring(4, 4, 1)
		long := shortest(g, d)
		w, some, e := gram.Both(g, d)
		if e != api.OK || some != (long >= 0) || some && len(w) != long {
			t.Error(ends, w, some, e, long)
		}
		all := tell(g, 5)
		if many, e := gram.Many(g, 5); many != all.many(5) || e != api.OK {
			t.Error(ends, many, e)
		}
		holdTells(t, g, make([]int, 5), all[0]["aaaaa"])
		if _, _, e := gram.Tells(g, make([]int, 12)); e != api.OK {
			t.Error(ends, e)
		}
	}
}

package same_test

import (
	"fmt"
	"math"
	"slices"
	"testing"

	"evermore/api"
	"evermore/same"
)

// example is the document's: two places that lead to each other, and one that leads to itself.
func example() api.Graph {
	return api.Graph{Letters: 1, Places: 3, Arrows: arrows("0a1 1a0 2a2")}
}

// dense has the first arrows of all that may be.
func dense(letters, places, many int) api.Graph {
	g := api.Graph{Letters: letters, Places: places}
	for from := range places {
		for letter := range letters {
			for to := range places {
				if len(g.Arrows) < many {
					g.Arrows = append(g.Arrows, api.Arrow{From: from, Letter: letter, To: to})
				}
			}
		}
	}
	return g
}

func refusedHolds(t *testing.T, name string, g api.Graph, l []api.Say, want api.Errno) {
	t.Helper()
	if is, e := same.Holds(g, l); len(is) > 0 || e != want {
		t.Errorf("%s: Holds: %v, %v, not %v", name, is, e, want)
	}
}

func refusedTell(t *testing.T, name string, g api.Graph, p, q int, want api.Errno) {
	t.Helper()
	if l, tells, e := same.Tell(g, p, q); len(l) > 0 || tells || e != want {
		t.Errorf("%s: Tell: %v, %v, %v, not %v", name, l, tells, e, want)
	}
}

// refused sees that no call does anything with g but tell what is wrong, whatever else is.
func refused(t *testing.T, name string, g api.Graph, want api.Errno) {
	t.Helper()
	if e := same.Check(g); e != want {
		t.Errorf("%s: Check: %v, not %v", name, e, want)
	}
	if l, e := same.Classes(g); len(l) > 0 || e != want {
		t.Errorf("%s: Classes: %v, %v, not %v", name, l, e, want)
	}
	if l, e := same.Serves(g); len(l) > 0 || e != want {
		t.Errorf("%s: Serves: %v, %v, not %v", name, l, e, want)
	}
	for _, l := range [][]api.Say{nil, parts("T"), {{Kind: 4}}, {{A: 1}}, make([]api.Say, 3001)} {
		refusedHolds(t, name, g, l, want)
	}
	for _, p := range []int{0, 1, -1, 12, math.MaxInt, math.MinInt} {
		for _, q := range []int{0, 2, -1, 12} {
			refusedTell(t, name, g, p, q, want)
		}
	}
}

// A change makes a graph wrong, in the way that an error tells.
type change struct {
	name string
	do   func(g *api.Graph)
	want api.Errno
}

func changes() []change {
	return []change{
		{"nothing at all", func(g *api.Graph) { *g = api.Graph{} }, api.ErrRange},
		{"no letters", func(g *api.Graph) { g.Letters = 0 }, api.ErrRange},
		{"no letters, no arrows", func(g *api.Graph) { g.Letters, g.Arrows = 0, nil }, api.ErrRange},
		{"letters below", func(g *api.Graph) { g.Letters = -1 }, api.ErrRange},
		{"letters far below", func(g *api.Graph) { g.Letters = math.MinInt }, api.ErrRange},
		{"letters beyond", func(g *api.Graph) { g.Letters = 5 }, api.ErrRange},
		{"letters far beyond", func(g *api.Graph) { g.Letters = math.MaxInt }, api.ErrRange},

		{"no places", func(g *api.Graph) { g.Places = 0 }, api.ErrSize},
		{"no places, no arrows", func(g *api.Graph) { g.Places, g.Arrows = 0, nil }, api.ErrSize},
		{"places below", func(g *api.Graph) { g.Places = -1 }, api.ErrSize},
		{"places far below", func(g *api.Graph) { g.Places = math.MinInt }, api.ErrSize},
		{"places beyond", func(g *api.Graph) { g.Places = 13 }, api.ErrSize},
		{"places far beyond", func(g *api.Graph) { g.Places = math.MaxInt }, api.ErrSize},
		{"61 arrows", func(g *api.Graph) { *g = dense(4, 12, 61) }, api.ErrSize},
		{"very many arrows", func(g *api.Graph) { g.Arrows = make([]api.Arrow, 1<<20) }, api.ErrSize},

		{"an arrow from no place", func(g *api.Graph) { g.Arrows[2].From = 3 }, api.ErrRange},
		{"an arrow from below", func(g *api.Graph) { g.Arrows[0].From = -1 }, api.ErrRange},
		{"an arrow from far beyond", func(g *api.Graph) { g.Arrows[2].From = math.MaxInt }, api.ErrRange},
		{"an arrow from far below", func(g *api.Graph) { g.Arrows[0].From = math.MinInt }, api.ErrRange},
		{"an arrow to no place", func(g *api.Graph) { g.Arrows[0].To = 3 }, api.ErrRange},
		{"an arrow to below", func(g *api.Graph) { g.Arrows[1].To = -1 }, api.ErrRange},
		{"an arrow to far beyond", func(g *api.Graph) { g.Arrows[2].To = math.MaxInt }, api.ErrRange},
		{"an arrow to far below", func(g *api.Graph) { g.Arrows[2].To = math.MinInt }, api.ErrRange},
		{"an arrow by no letter", func(g *api.Graph) { g.Arrows[1].Letter = 1 }, api.ErrRange},
		{"an arrow by a letter below", func(g *api.Graph) { g.Arrows[0].Letter = -1 }, api.ErrRange},
		{"an arrow by a letter far beyond", func(g *api.Graph) { g.Arrows[0].Letter = math.MaxInt }, api.ErrRange},
		{"an arrow by a letter far below", func(g *api.Graph) { g.Arrows[2].Letter = math.MinInt }, api.ErrRange},
		{"one place less", func(g *api.Graph) { g.Places = 2 }, api.ErrRange},

		{"an arrow twice", func(g *api.Graph) { g.Arrows[1] = g.Arrows[0] }, api.ErrShape},
		{"the last arrow twice", func(g *api.Graph) { g.Arrows = append(g.Arrows, g.Arrows[2]) }, api.ErrShape},
		{"falls by From", func(g *api.Graph) { g.Arrows = arrows("1a0 0a1 2a2") }, api.ErrShape},
		{"falls by From alone", func(g *api.Graph) { g.Letters, g.Arrows = 2, arrows("1a0 0b1") }, api.ErrShape},
		{"falls by Letter", func(g *api.Graph) { g.Letters, g.Arrows = 2, arrows("0b1 0a1") }, api.ErrShape},
		{"falls by Letter alone", func(g *api.Graph) { g.Letters, g.Arrows = 2, arrows("0b1 0a2") }, api.ErrShape},
		{"falls by To", func(g *api.Graph) { g.Arrows = arrows("0a2 0a1") }, api.ErrShape},
		{"falls at the end", func(g *api.Graph) { g.Arrows = arrows("0a1 1a0 2a2 2a1") }, api.ErrShape},
	}
}

// T1: what Check says, and the calls behind Saying with it.
func TestRefuses(t *testing.T) {
	for _, c := range changes() {
		g := example()
		c.do(&g)
		refused(t, c.name, g, c.want)
	}
}

// T1: where several things are wrong, the first one is told.
func TestFirstIsTold(t *testing.T) {
	noLetters := func(g *api.Graph) { g.Letters = 0 }
	noPlaces := func(g *api.Graph) { g.Places = 13 }
	many := func(g *api.Graph) { g.Arrows = append(g.Arrows, dense(1, 12, 60).Arrows...) }
	from := func(g *api.Graph) { g.Arrows[1].From = -1 }
	last := func(g *api.Graph) { g.Arrows[2].To = 3 }
	twice := func(g *api.Graph) { g.Arrows[1] = g.Arrows[0] }
	for _, y := range []struct {
		name string
		do   []func(g *api.Graph)
		want api.Errno
	}{
		{"letters ahead of places", []func(*api.Graph){noPlaces, noLetters}, api.ErrRange},
		{"letters ahead of arrows", []func(*api.Graph){many, noLetters}, api.ErrRange},
		{"letters ahead of order", []func(*api.Graph){twice, noLetters}, api.ErrRange},
		{"places ahead of numbers", []func(*api.Graph){from, noPlaces}, api.ErrSize},
		{"many ahead of numbers", []func(*api.Graph){from, many}, api.ErrSize},
		{"places ahead of order", []func(*api.Graph){twice, noPlaces}, api.ErrSize},
		{"a number ahead of order", []func(*api.Graph){twice, last}, api.ErrRange},
		{"a number that falls", []func(*api.Graph){from}, api.ErrRange},
	} {
		g := example()
		for _, do := range y.do {
			do(&g)
		}
		refused(t, y.name, g, y.want)
	}
}

// T1: all that may be, at its limits.
func TestMayBe(t *testing.T) {
	for letters := 1; letters <= 4; letters++ {
		for places := 1; places <= 12; places++ {
			for _, many := range []int{0, 1, 59, 60} {
				g := dense(letters, places, many)
				if e := same.Check(g); e != api.OK {
					t.Error(letters, places, many, e)
				}
				holdAll(t, g)
			}
		}
	}
	for _, text := range []string{"", "BdB", "0a0 0a1 0b0 1a0", "0d9 1a0", "0a9 0b1", "0a0 0a1 0a2 0aA 0aB BaB"} {
		if e := same.Check(read(12, text)); e != api.OK {
			t.Error(text, e)
		}
	}
}

// T2: what is wrong with a saying; Holds says it, too.
func TestSayingRefuses(t *testing.T) {
	far := []int{-1, math.MaxInt, math.MinInt}
	type wrong struct {
		l    []api.Say
		want api.Errno
	}
	all := []wrong{{nil, api.ErrSize}, {[]api.Say{}, api.ErrSize}, {make([]api.Say, 3001), api.ErrSize}, {make([]api.Say, 1<<20), api.ErrSize}}
	part := func(ahead int, s api.Say, want api.Errno) {
		l := append(make([]api.Say, ahead), s)
		all = append(all, wrong{l, want}, wrong{append(l, api.Say{}, api.Say{Kind: 9 - int(want)}), want})
	}
	for ahead := range 4 {
		for _, x := range append(far, 4, 5) {
			part(ahead, api.Say{Kind: x}, api.ErrShape)
			part(ahead, api.Say{Kind: x, Letter: 7, A: 99, B: 99}, api.ErrShape)
		}
		for _, x := range append(far, ahead, ahead+1, ahead+2) {
			part(ahead, api.Say{Kind: 1, A: x}, api.ErrRange)
			part(ahead, api.Say{Kind: 2, A: x}, api.ErrRange)
			part(ahead, api.Say{Kind: 3, A: x}, api.ErrRange)
			part(ahead, api.Say{Kind: 3, B: x}, api.ErrRange)
		}
		for _, x := range append(far, 1, 2) {
			part(ahead, api.Say{A: x}, api.ErrRange)
			part(ahead, api.Say{B: x}, api.ErrRange)
			part(ahead, api.Say{Letter: x}, api.ErrRange)
			part(ahead, api.Say{Kind: 1, B: x}, api.ErrRange)
			part(ahead, api.Say{Kind: 1, Letter: x}, api.ErrRange)
			part(ahead, api.Say{Kind: 2, B: x}, api.ErrRange)
			part(ahead, api.Say{Kind: 3, Letter: x}, api.ErrRange)
		}
		for _, x := range append(far, 4, 5) {
			part(ahead, api.Say{Kind: 2, Letter: x}, api.ErrRange)
		}
	}
	for _, y := range all {
		if e := same.Saying(y.l); e != y.want {
			t.Errorf("%v: %v, not %v", y.l[:min(len(y.l), 9)], e, y.want)
		}
		refusedHolds(t, "a wrong saying", example(), y.l, y.want)
	}
}

// T2: part by part.
func TestSayingFirstIsTold(t *testing.T) {
	shape, reach, good := api.Say{Kind: 4}, api.Say{Kind: 1, A: 7}, api.Say{}
	for _, y := range []struct {
		l    []api.Say
		want api.Errno
	}{
		{[]api.Say{shape, reach}, api.ErrShape},
		{[]api.Say{reach, shape}, api.ErrRange},
		{[]api.Say{good, shape, reach}, api.ErrShape},
		{[]api.Say{good, reach, shape}, api.ErrRange},
		{[]api.Say{good, good, good, reach, good, good, good, good, good}, api.ErrRange},
		{[]api.Say{good, {Kind: -1, A: -1}}, api.ErrShape},
		{append(make([]api.Say, 2999), api.Say{Kind: 1, A: 2999}), api.ErrRange},
		{append([]api.Say{shape}, make([]api.Say, 3000)...), api.ErrSize},
	} {
		if e := same.Saying(y.l); e != y.want {
			t.Error(y.l[:min(len(y.l), 9)], e, y.want)
		}
		refusedHolds(t, "a wrong saying", example(), y.l, y.want)
	}
}

// T2: all that may be, at its limits.
func TestSayingMayBe(t *testing.T) {
	for _, text := range []string{"T", "T T", "T !0", "T !0 !1 !0", "T a0 b0 c0 d0", "T T 0&1", "T 0&0", "T T 1&0", "T !0 a1 2&0 !3 d4"} {
		if e := same.Saying(parts(text)); e != api.OK {
			t.Error(text, e)
		}
	}
	for _, s := range []api.Say{{}, {Kind: 1, A: 2998}, {Kind: 2, Letter: 3, A: 2998}, {Kind: 3, A: 2998, B: 2998}, {Kind: 3}} {
		if e := same.Saying(append(make([]api.Say, 2999), s)); e != api.OK {
			t.Error(s, e)
		}
	}
	x := dice(1)
	for range 300 {
		if e := same.Saying(x.saying(1 + x.roll(3000))); e != api.OK {
			t.Fatal(e)
		}
	}
}

// T3, by hand: of each place 1 where it is so.
func TestHolds(t *testing.T) {
	for _, x := range []struct{ graph, saying, want string }{
		{"0a1 1a2 2b3", "T", "1111"},
		{"0a1 1a2 2b3", "T !0", "0000"},
		{"0a1 1a2 2b3", "T !0 !1", "1111"},
		{"0a1 1a2 2b3", "T a0", "1100"},
		{"0a1 1a2 2b3", "T b0", "0010"},
		{"0a1 1a2 2b3", "T c0", "0000"},
		{"0a1 1a2 2b3", "T d0 !1", "1111"},
		{"0a1 1a2 2b3", "T a0 a1", "1000"},
		{"0a1 1a2 2b3", "T b0 a1", "0100"},
		{"0a1 1a2 2b3", "T b0 a1 a2", "1000"},
		{"0a1 1a2 2b3", "T !0 a1", "0000"},
		{"0a1 1a2 2b3", "T a0 !1", "0011"},
		{"0a1 1a2 2b3", "T a0 !1 b0 !3 2&4", "0001"},
		{"0a1 1a2 2b3", "T a0 b0 1&2", "0000"},
		{"0a1 1a2 2b3", "T a0 !1 b0 2&3", "0010"},
		{"0a1 1a2 2b3", "T a0 b0 2&2", "0010"},
		{"0a1 1a2 2b3", "T a0 !0", "0000"},
		{"0a1 1a2 2b3", "T a0 T", "1111"},
		{"0a0 0a1 1a2", "T a0 a1", "1000"},
		{"0a0 0a1 1a2", "T a0 !1 a2 !3", "1011"},
		{"0a0 0a1 0a2 3a3", "T a0 a1 a2 a3 a4", "1001"},
		{"0a0 0a1 0a2 3a3", "T a0 !1 a2", "1000"},
		{"0a0 0a1 0a2 3a3", "T a0 !1 a2 !3 1&4", "0001"},
		{"", "T a0", "0000"},
		{"", "T a0 !1 b2", "0000"},
	} {
		is := holdHolds(t, read(4, x.graph), parts(x.saying))
		got := ""
		for _, so := range is {
			got += map[bool]string{true: "1", false: "0"}[so]
		}
		if got != x.want {
			t.Error(x, got)
		}
	}
}

// T3: an arrow by a letter that the graph does not have leads nowhere.
func TestHoldsOtherLetters(t *testing.T) {
	for letters := 1; letters <= 4; letters++ {
		g := dense(letters, 2, 60)
		for letter := range 4 {
			l := []api.Say{{}, {Kind: 2, Letter: letter}}
			if is := holdHolds(t, g, l); is[0] != (letter < letters) || is[1] != (letter < letters) {
				t.Error(letters, letter, is)
			}
		}
	}
}

// T3: whatever the graph, whatever is said; at the limits, too.
func TestHoldsAnything(t *testing.T) {
	x := dice(2)
	count := map[bool]int{}
	for range 5000 {
		g := x.graph(1+x.roll(4), 1+x.roll(12), x.roll(61))
		for _, so := range holdHolds(t, g, x.saying(1+x.roll(30))) {
			count[so]++
		}
	}
	if count[true] < 5000 || count[false] < 5000 {
		t.Error(count)
	}
	for range 20 {
		holdHolds(t, x.graph(4, 12, 60), x.saying(3000))
	}
	long := parts("T")
	for len(long) < 3000 {
		long = append(long, api.Say{Kind: 3, A: len(long) - 1, B: len(long) - 1})
	}
	if is := holdHolds(t, example(), long); !is[0] || !is[2] {
		t.Error(is)
	}
}

// T4 and T6, by hand: the numbers of the places, and the table.
func TestByHand(t *testing.T) {
	for _, x := range []struct {
		name, graph, classes, serves string
	}{
		{"the example", "0a1 1a0 2a2", "000", "111 111 111"},
		{"no arrows", "", "000", "111 111 111"},
		{"a way", "0a1 1a2", "012", "100 110 111"},
		{"a way back", "1a0 2a1", "012", "111 011 001"},
		{"one place", "", "0", "1"},
		{"a ring and nothing", "0a1 1a0", "001", "110 110 111"},
		{"a ring and itself", "0a1 1a0 2a2 3a3 3b0", "0001", "1111 1111 1111 0001"},
		{"two letters", "0a2 1b2", "012", "100 010 111"},
		{"one letter more", "0a2 1a2 1b2", "012", "110 010 111"},
		{"more of one", "0a1 0a2 3a1", "0110", "1001 1111 1111 1001"},
		{"to an end as well", "0a0 0a1 2a2", "012", "101 111 101"},
		{"an end as well, later", "0a1 1a1 2a2 2a3", "0012", "1110 1110 1110 1111"},
		{"serve both ways, not alike", "0a1 1b4 2a1 2a3", "01233", "10100 01000 10100 11111 11111"},
		{"chosen at once, or later", "0a1 0a2 1b4 2c4 3a5 5b4 5c4", "012345", "100100 010001 001001 000100 111111 000001"},
		{"like another from behind", "0a2 1a2 3a0 4a1", "00122", "11011 11011 11111 00011 00011"},
		{"the last like the first", "0a1 2a1 2b1 3a1", "0120", "1011 1111 0010 1011"},
	} {
		var want []int
		for i := range x.classes {
			want = append(want, int(x.classes[i]-'0'))
		}
		g := read(len(want), x.graph)
		holdAll(t, g)
		got, _ := same.Classes(g)
		serves, _ := same.Serves(g)
		if !slices.Equal(got, want) || shown(serves) != x.serves {
			t.Error(x.name, got, shown(serves))
		}
	}
}

func shown(table [][]bool) string {
	out := ""
	for p, row := range table {
		if p > 0 {
			out += " "
		}
		for _, is := range row {
			out += map[bool]string{true: "1", false: "0"}[is]
		}
	}
	return out
}

// T4, T6: all small ones, by all that there could be.
func TestAllSmall(t *testing.T) {
	all := numberings(3)
	for code := range 1 << 9 {
		g := api.Graph{Letters: 1, Places: 3}
		for i := range 9 {
			if code>>i&1 == 1 {
				g.Arrows = append(g.Arrows, api.Arrow{From: i / 3, To: i % 3})
			}
		}
		holdAll(t, g)
		if got, want := holdClasses(t, g), fewest(t, g, all); !slices.Equal(got, want) {
			t.Fatal(g, got, want)
		}
		if got, want := holdServes(t, g), anyServes(g); !sameTable(got, want) {
			t.Fatal(g, got, want)
		}
	}
}

// T4, T6: with more letters and places, by all that there could be.
func TestSomeByAll(t *testing.T) {
	x := dice(3)
	for range 400 {
		g := x.graph(1+x.roll(3), 3, 1+x.roll(12))
		if got, want := holdServes(t, g), anyServes(g); !sameTable(got, want) {
			t.Fatal(g, got, want)
		}
	}
	for places := 1; places <= 7; places++ {
		all := numberings(places)
		for range 60 {
			g := x.graph(1+x.roll(2), places, 1+x.roll(3*places))
			if got, want := holdClasses(t, g), fewest(t, g, all); !slices.Equal(got, want) {
				t.Fatal(g, got, want)
			}
		}
	}
}

// T4, T5, T6: whatever the graph.
func TestAnything(t *testing.T) {
	x := dice(4)
	for range 1500 {
		holdAll(t, x.graph(1+x.roll(4), 1+x.roll(12), x.roll(61)))
	}
	for range 1500 {
		places := 6 + x.roll(7)
		holdAll(t, x.graph(1+x.roll(2), places, places+x.roll(places)))
	}
}

// blown has twice the places, each of which leads to some that are like where the first one leads: so nothing new can
// be told.
func (x *dice) blown(g api.Graph) api.Graph {
	out := api.Graph{Letters: g.Letters, Places: 2 * g.Places}
	for _, a := range g.Arrows {
		for _, from := range []int{a.From, a.From + g.Places} {
			for _, half := range [][]int{{0}, {1}, {0, 1}}[x.roll(3)] {
				out.Arrows = append(out.Arrows, api.Arrow{From: from, Letter: a.Letter, To: a.To + half*g.Places})
			}
		}
	}
	out.Arrows = sorted(out.Arrows)
	return out
}

// T4, T6: places that come twice.
func TestBlown(t *testing.T) {
	x := dice(5)
	for range 1500 {
		g := x.graph(1+x.roll(4), 1+x.roll(6), x.roll(16))
		b := x.blown(g)
		holdAll(t, b)
		few, numbers := holdClasses(t, g), holdClasses(t, b)
		if !slices.Equal(numbers, slices.Concat(few, few)) {
			t.Fatal(g, b, few, numbers)
		}
		serves, wide := holdServes(t, g), holdServes(t, b)
		for p := range b.Places {
			for q := range b.Places {
				if wide[p][q] != serves[p%g.Places][q%g.Places] {
					t.Fatal(g, b, p, q)
				}
			}
		}
	}
}

// T5: what is alike, no saying tells apart.
func TestNoSayingTells(t *testing.T) {
	x := dice(6)
	alike := 0
	for range 1000 {
		g := x.blown(x.graph(1+x.roll(4), 1+x.roll(6), x.roll(16)))
		numbers, _ := same.Classes(g)
		for range 5 {
			is := holdHolds(t, g, x.saying(1+x.roll(40)))
			for p := range numbers {
				first := slices.Index(numbers, numbers[p])
				if is[p] != is[first] {
					t.Fatal(g, numbers, is)
				}
				if first < p {
					alike++
				}
			}
		}
	}
	if alike < 1000 {
		t.Error(alike)
	}
}

// T5, by hand: there is one, or none.
func TestTell(t *testing.T) {
	for _, x := range []struct {
		name, graph string
		p, q        int
		tells       bool
	}{
		{"the example", "0a1 1a0 2a2", 0, 2, false},
		{"the example, the other two", "0a1 1a0 2a2", 1, 0, false},
		{"itself", "0a1 1a2", 1, 1, false},
		{"an arrow and none", "0a1", 0, 1, true},
		{"none and an arrow", "0a1", 1, 0, true},
		{"neither", "0a1", 1, 2, false},
		{"another letter", "0a2 1b2", 0, 1, true},
		{"the last letter", "0d2 1c2", 1, 0, true},
		{"more of one", "0a1 0a2 3a1", 0, 3, false},
		{"two steps and one", "0a1 1a2", 0, 1, true},
		{"one step and two", "0a1 1a2", 1, 0, true},
		{"serve both ways, not alike", "0a1 1b4 2a1 2a3", 0, 2, true},
		{"serve both ways, not alike, the other way", "0a1 1b4 2a1 2a3", 2, 0, true},
		{"chosen at once", "0a1 0a2 1b4 2c4 3a5 5b4 5c4", 0, 3, true},
		{"chosen later", "0a1 0a2 1b4 2c4 3a5 5b4 5c4", 3, 0, true},
		{"rings of two and of three, one with a way out", "0a1 1a0 2a3 3a4 4a2 4b4", 0, 2, true},
		{"rings of two and of three", "0a1 1a0 2a3 3a4 4a2", 0, 2, false},
	} {
		if l := holdTell(t, read(6, x.graph), x.p, x.q); len(l) > 0 != x.tells {
			t.Error(x.name, l)
		}
	}
}

// T5: what is no place is told behind what is wrong with the graph.
func TestTellRefuses(t *testing.T) {
	for _, x := range []int{3, 4, 12, -1, math.MaxInt, math.MinInt} {
		refusedTell(t, "p", example(), x, 0, api.ErrRange)
		refusedTell(t, "q", example(), 2, x, api.ErrRange)
		refusedTell(t, "both", example(), x, x, api.ErrRange)
		refusedTell(t, "p, a way", read(3, "0a1 1a2"), x, 0, api.ErrRange)
		refusedTell(t, "q, a way", read(3, "0a1 1a2"), 0, x, api.ErrRange)
	}
	refusedTell(t, "one place", api.Graph{Letters: 1, Places: 1}, 0, 1, api.ErrRange)
	refusedTell(t, "one place", api.Graph{Letters: 1, Places: 1}, 1, 0, api.ErrRange)
}

// T5: two ways that are alike but at their ends: what tells two places apart does so only by all steps.
func TestTellByLongWays(t *testing.T) {
	for _, text := range []string{
		"0a1 1a2 2a3 3a4 4a5 5a6 6a7 7a8 8a9 9aA AaB",
		"0a1 1a2 2a3 3a4 4a5 5a0 6a7 7a8 8a9 9aA AaB BaB BbB",
		"0a1 0a7 1a2 1a8 2a3 2a9 3a4 3aA 4a5 4aB 5a5 6a1 6a7 7a2 7a8 8a3 8a9 9a4 9aA Aa5 AaB Bb5",
		"0a2 0a3 1a2 1a3 2a4 2a5 3a4 4a6 4a7 5a6 6a8 6a9 7a8 8aA 8aB 9aA AaA BaB Bb0",
	} {
		holdAll(t, read(12, text))
	}
}

// roomy puts something behind the length of each list.
func roomy[T any](l []T, behind T) []T { return append(slices.Clone(l), behind)[:len(l)] }

// whole is all that lies in the lists, also behind their lengths.
func whole(g api.Graph, l []api.Say) string {
	return fmt.Sprint(g, g.Arrows[:cap(g.Arrows)], l, l[:cap(l)])
}

// spoil writes over all of the lists, also behind their lengths, and looks whether they hold each other's.
func spoil[T comparable](t *testing.T, one, other T, lists ...[]T) {
	t.Helper()
	for i := range lists {
		for j, l := range lists {
			for k := range l[:cap(l)] {
				l[:cap(l)][k] = map[bool]T{true: one, false: other}[i == j]
			}
		}
		for k := range lists[i][:cap(lists[i])] {
			if lists[i][:cap(lists[i])][k] != one {
				t.Fatal("lists share memory")
			}
		}
	}
}

// Lists that come in are neither changed nor kept, and what comes out is new.
func TestMemory(t *testing.T) {
	x := dice(7)
	for range 500 {
		g, l := x.graph(1+x.roll(4), 1+x.roll(12), x.roll(60)), roomy(x.saying(1+x.roll(30)), api.Say{Kind: 2})
		g.Arrows = roomy(g.Arrows, api.Arrow{})
		before := whole(g, l)
		for range 2 {
			same.Check(g)
			same.Saying(l)
			is, numbers, serves := holdHolds(t, g, l), holdClasses(t, g), holdServes(t, g)
			spoil(t, true, false, append(slices.Clone(serves), is)...)
			clear(serves[:cap(serves)])
			spoil(t, -1, -2, numbers)
			p, q := x.roll(g.Places), x.roll(g.Places)
			spoil(t, api.Say{Kind: -1}, api.Say{}, holdTell(t, g, p, q))
			holdTell(t, g, p, q)
			if whole(g, l) != before {
				t.Fatal("changed:", g, l)
			}
		}
	}
}

// T5: where it takes the most parts that are known of; without what is known of a pair it would be far more than may be.
func TestTellByManyParts(t *testing.T) {
	for _, text := range []string{
		"0a0 0a5 0a6 0a7 0a8 0a9 0aA 1a0 1a1 1a2 1a5 1a8 1aA 1aB 2a1 2a4 2aA 4a1 4a2 4a3 4a5 4a7 4a9 5a0 5a1 5a2 5a6 5a7 5a8 5aB 6a0 6a1 6a5 6a7 6a8 6a9 6aA 7a1 7a4 7a5 7a6 7aB 8a4 8a7 8a8 8a9 9a0 9a1 9a6 9a9 9aA 9aB Aa1 Aa3 Aa4 Aa5 Ba2 Ba3 Ba4 BaB",
		"0a2 0a4 0a6 0a9 0aA 0aB 2a0 2a2 2a3 2a4 2a6 2a8 2a9 2aB 3a0 3a4 3a5 3a8 3aA 4a3 4a4 4a6 4a7 4a8 4a9 5a1 5a3 5aA 6a3 6a4 6a6 6a7 6a8 6a9 6aB 7a0 7a3 7a5 7aA 8a0 8a2 8a3 8a7 8a8 8a9 9a2 9a3 9a4 9a6 9a7 9a9 9aB Aa0 Aa1 Aa6 Ba3 Ba6 Ba7 Ba8 BaB",
		"0a0 0a2 0a3 0a4 0aB 1a0 1a1 1a2 1a3 1a8 1a9 2a0 2a1 2a3 2a5 2a6 2a8 2a9 2aB 3a1 3a2 3a4 3a5 3a6 4a4 4a7 4aA 5a0 5a1 5a3 5a5 5a6 5a8 5a9 5aA 5aB 6a2 6a3 6a6 6a8 6a9 6aB 8a3 8a4 8a5 8a8 8aA 9a0 9a1 9a2 9a6 9a8 9a9 9aB Aa3 Aa7 Ba4 Ba9 BaA BaB",
	} {
		if longest := holdAll(t, read(12, text)); longest < 100 {
			t.Error(longest)
		}
	}
}

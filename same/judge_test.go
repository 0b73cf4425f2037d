package same_test

import (
	"fmt"
	"slices"
	"strconv"
	"strings"
	"testing"

	"evermore/api"
	"evermore/same"
)

// dice are no chance: the same rolls each time.
type dice uint32

func (x *dice) roll(n int) int {
	*x = *x*1664525 + 1013904223
	return int(*x>>8) % n
}

// sign reads a place or a part: 0 to 9, then A, B, ..
func sign(b byte) int {
	n, err := strconv.ParseInt(string(b), 36, 0)
	if err != nil {
		panic(err)
	}
	return int(n)
}

// arrows reads arrows: 0a1 leads from 0 to 1 by the letter 0.
func arrows(text string) []api.Arrow {
	var out []api.Arrow
	for _, f := range strings.Fields(text) {
		out = append(out, api.Arrow{From: sign(f[0]), Letter: int(f[1] - 'a'), To: sign(f[2])})
	}
	return out
}

// read makes a graph of four letters.
func read(places int, text string) api.Graph {
	return api.Graph{Letters: 4, Places: places, Arrows: arrows(text)}
}

// parts reads a saying: T everywhere, !0 not part 0, a0 an arrow by the letter 0 to where part 0 is, 0&1 both.
func parts(text string) []api.Say {
	var out []api.Say
	for _, f := range strings.Fields(text) {
		switch {
		case f == "T":
			out = append(out, api.Say{})
		case f[0] == '!':
			out = append(out, api.Say{Kind: 1, A: sign(f[1])})
		case len(f) == 2:
			out = append(out, api.Say{Kind: 2, Letter: int(f[0] - 'a'), A: sign(f[1])})
		default:
			out = append(out, api.Say{Kind: 3, A: sign(f[0]), B: sign(f[2])})
		}
	}
	return out
}

// sorted puts arrows in their order, each one once.
func sorted(l []api.Arrow) []api.Arrow {
	key := func(a api.Arrow) int { return (a.From*4+a.Letter)*12 + a.To }
	slices.SortFunc(l, func(a, b api.Arrow) int { return key(a) - key(b) })
	return slices.Compact(l)
}

// graph makes one with about as many arrows as is said.
func (x *dice) graph(letters, places, many int) api.Graph {
	g := api.Graph{Letters: letters, Places: places}
	for range many {
		g.Arrows = append(g.Arrows, api.Arrow{From: x.roll(places), Letter: x.roll(letters), To: x.roll(places)})
	}
	g.Arrows = sorted(g.Arrows)
	return g
}

// saying makes one, of parts that lie near to one another.
func (x *dice) saying(many int) []api.Say {
	l := []api.Say{{}}
	for len(l) < many {
		a, b := max(0, len(l)-1-x.roll(3)), max(0, len(l)-1-x.roll(6))
		kinds := []api.Say{{}, {Kind: 1, A: b}, {Kind: 2, Letter: x.roll(4), A: a}, {Kind: 2, Letter: x.roll(4), A: b}, {Kind: 3, A: a, B: b}}
		l = append(l, kinds[x.roll(len(kinds))])
	}
	return l
}

// ends answers where arrows lead from a place, by a letter.
func ends(g api.Graph, place, letter int) []int {
	var out []int
	for _, a := range g.Arrows {
		if a.From == place && a.Letter == letter {
			out = append(out, a.To)
		}
	}
	return out
}

// isSo tells whether a part of a saying is so at a place, by the words of T2. What is known of a part is kept: 1 that it is, 2 that it is not.
func isSo(g api.Graph, l []api.Say, part, place int, known [][]int) bool {
	if known[part][place] == 0 {
		s, so := l[part], false
		switch s.Kind {
		case 0:
			so = true
		case 1:
			so = !isSo(g, l, s.A, place, known)
		case 2:
			so = slices.ContainsFunc(ends(g, place, s.Letter), func(to int) bool { return isSo(g, l, s.A, to, known) })
		case 3:
			so = isSo(g, l, s.A, place, known) && isSo(g, l, s.B, place, known)
		}
		known[part][place] = 2
		if so {
			known[part][place] = 1
		}
	}
	return known[part][place] == 1
}

func judgeHolds(g api.Graph, l []api.Say) []bool {
	known := make([][]int, len(l))
	for i := range known {
		known[i] = make([]int, g.Places)
	}
	var out []bool
	for place := range g.Places {
		out = append(out, isSo(g, l, len(l)-1, place, known))
	}
	return out
}

// does tells whether q can do whatever p does, into places that are good with each other.
func does(g api.Graph, p, q int, good func(p, q int) bool) bool {
	for letter := range g.Letters {
		for _, to := range ends(g, p, letter) {
			if !slices.ContainsFunc(ends(g, q, letter), func(by int) bool { return good(to, by) }) {
				return false
			}
		}
	}
	return true
}

// settled tells whether numbers are such that two places have one just if they do the same, by the words of T4.
func settled(g api.Graph, numbers []int) bool {
	one := func(p, q int) bool { return numbers[p] == numbers[q] }
	for p := range numbers {
		for q := range numbers {
			if one(p, q) != (does(g, p, q, one) && does(g, q, p, one)) {
				return false
			}
		}
	}
	return true
}

// inOrder tells whether each number is that of a place ahead, or the next one.
func inOrder(numbers []int) bool {
	next := 0
	for _, x := range numbers {
		if x < 0 || x > next {
			return false
		}
		next = max(next, x+1)
	}
	return true
}

// numberings answers all numbers of so many places that are in order.
func numberings(places int) [][]int {
	out := [][]int{{}}
	for range places {
		var more [][]int
		for _, l := range out {
			next := 0
			for _, x := range l {
				next = max(next, x+1)
			}
			for x := range next + 1 {
				more = append(more, append(slices.Clone(l), x))
			}
		}
		out = more
	}
	return out
}

// fewest goes through all numberings, for the one of the fewest classes.
func fewest(t *testing.T, g api.Graph, all [][]int) []int {
	t.Helper()
	var best []int
	many := g.Places + 1
	for _, l := range all {
		if !settled(g, l) {
			continue
		}
		if m := slices.Max(l) + 1; m < many {
			best, many = l, m
		} else if m == many {
			t.Fatal("two of the fewest:", g, l, best)
		}
	}
	return best
}

// refined takes classes apart by what leads from their places, round by round.
func refined(g api.Graph) []int {
	numbers := make([]int, g.Places)
	for range g.Places {
		var looks []string
		for p := range g.Places {
			look := []string{}
			for _, a := range g.Arrows {
				if a.From == p {
					look = append(look, fmt.Sprint(a.Letter, ":", numbers[a.To]))
				}
			}
			slices.Sort(look)
			looks = append(looks, fmt.Sprint(numbers[p], slices.Compact(look)))
		}
		numbers = numbered(looks)
	}
	return numbers
}

func numbered(looks []string) []int {
	var seen []string
	var out []int
	for _, look := range looks {
		if !slices.Contains(seen, look) {
			seen = append(seen, look)
		}
		out = append(out, slices.Index(seen, look))
	}
	return out
}

// judgeServes begins with the whole table, and goes round by round, until nothing changes.
func judgeServes(g api.Graph) [][]bool {
	good := tableOf(g.Places, func(int, int) bool { return true })
	for {
		last := good
		good = tableOf(g.Places, func(p, q int) bool {
			return does(g, p, q, func(p, q int) bool { return last[p][q] })
		})
		if sameTable(good, last) {
			return good
		}
	}
}

func tableOf(places int, is func(p, q int) bool) [][]bool {
	out := make([][]bool, places)
	for p := range out {
		for q := range places {
			out[p] = append(out[p], is(p, q))
		}
	}
	return out
}

// anyServes goes through all tables: a pair stands if it stands in one that is as is said.
func anyServes(g api.Graph) [][]bool {
	n := g.Places
	var some int
	for code := range 1 << (n * n) {
		in := func(p, q int) bool { return code>>(p*n+q)&1 == 1 }
		stands := true
		for i := range n * n {
			stands = stands && (!in(i/n, i%n) || does(g, i/n, i%n, in))
		}
		if stands {
			some |= code
		}
	}
	return tableOf(n, func(p, q int) bool { return some>>(p*n+q)&1 == 1 })
}

func sameTable(a, b [][]bool) bool {
	return slices.EqualFunc(a, b, func(x, y []bool) bool { return slices.Equal(x, y) })
}

func holdHolds(t *testing.T, g api.Graph, l []api.Say) []bool {
	t.Helper()
	got, e := same.Holds(g, l)
	if want := judgeHolds(g, l); e != api.OK || !slices.Equal(got, want) {
		t.Fatalf("Holds: %v, %v: %v, %v, not %v", g, l, got, e, want)
	}
	return got
}

func holdClasses(t *testing.T, g api.Graph) []int {
	t.Helper()
	got, e := same.Classes(g)
	if want := refined(g); e != api.OK || !slices.Equal(got, want) {
		t.Fatalf("Classes: %v: %v, %v, not %v", g, got, e, want)
	}
	if !settled(g, got) || !inOrder(got) {
		t.Fatalf("Classes: %v: %v is not as is said", g, got)
	}
	return got
}

func holdServes(t *testing.T, g api.Graph) [][]bool {
	t.Helper()
	got, e := same.Serves(g)
	if want := judgeServes(g); e != api.OK || !sameTable(got, want) {
		t.Fatalf("Serves: %v: %v, %v, not %v", g, got, e, want)
	}
	return got
}

// holdTell looks whether what is answered is as is said, and answers it.
func holdTell(t *testing.T, g api.Graph, p, q int) []api.Say {
	t.Helper()
	return holdTellBy(t, g, refined(g), p, q)
}

func holdTellBy(t *testing.T, g api.Graph, numbers []int, p, q int) []api.Say {
	t.Helper()
	l, tells, e := same.Tell(g, p, q)
	if e != api.OK || tells != (numbers[p] != numbers[q]) {
		t.Fatalf("Tell: %v, %d, %d: %v, %v", g, p, q, tells, e)
	}
	if !tells {
		if len(l) > 0 {
			t.Fatalf("Tell: %v, %d, %d: nothing tells, but %v", g, p, q, l)
		}
		return nil
	}
	if e := same.Saying(l); e != api.OK {
		t.Fatalf("Tell: %v, %d, %d: %v is no saying: %v", g, p, q, l, e)
	}
	if is := judgeHolds(g, l); !is[p] || is[q] {
		t.Fatalf("Tell: %v, %d, %d: %v is so: %v", g, p, q, l, is)
	}
	return l
}

// holdAll looks at all that is answered of a graph, and answers how long the longest saying is.
func holdAll(t *testing.T, g api.Graph) int {
	t.Helper()
	numbers, serves := holdClasses(t, g), holdServes(t, g)
	longest := 0
	for p := range g.Places {
		for q := range g.Places {
			longest = max(longest, len(holdTellBy(t, g, numbers, p, q)))
			if numbers[p] == numbers[q] && !serves[p][q] {
				t.Fatal("alike, but the one does not serve:", g, p, q)
			}
		}
	}
	return longest
}

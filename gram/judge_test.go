package gram_test

import (
	"fmt"
	"math/big"
	"slices"
	"strings"
	"testing"

	"evermore/api"
	"evermore/gram"
)

// read reads a grammar of so many letters and names, whose rules are told so: A>aAb. Small letters are letters, the
// great ones names.
func read(many, names int, rules ...string) api.Grammar {
	g := api.Grammar{Letters: many, Names: names}
	for _, rule := range rules {
		from, to, _ := strings.Cut(rule, ">")
		m := api.Make{From: int(from[0] - 'A')}
		for _, b := range []byte(to) {
			if b < 'a' {
				m.To = append(m.To, many+int(b-'A'))
			} else {
				m.To = append(m.To, int(b-'a'))
			}
		}
		g.Makes = append(g.Makes, m)
	}
	return g
}

// letters reads a word.
func letters(text string) []int {
	var out []int
	for _, b := range []byte(text) {
		out = append(out, int(b-'a'))
	}
	return out
}

func write(w []int) string {
	var b strings.Builder
	for _, l := range w {
		b.WriteByte(byte('a' + l))
	}
	return b.String()
}

// behind answers the row of signs to which rules lead, one behind the other, from the name 0 on, by the words of the
// promise alone; and whether each of them can be done there.
func behind(g api.Grammar, rules []int) ([]int, bool) {
	row := []int{g.Letters}
	for _, r := range rules {
		at := slices.IndexFunc(row, func(sign int) bool { return sign >= g.Letters })
		if at < 0 || r < 0 || r >= len(g.Makes) || g.Makes[r].From != row[at]-g.Letters {
			return nil, false
		}
		row = slices.Concat(row[:at], g.Makes[r].To, row[at+1:])
	}
	return row, true
}

// told has, of each name, the words of at most so many letters that one comes to from it, in writing; of each of them
// the fewest rules by which one does.
type told []map[string]int

// tell grows words out of words by the rules, until no more come and none comes by fewer rules.
func tell(g api.Grammar, most int) told {
	out := make(told, g.Names)
	for n := range out {
		out[n] = map[string]int{}
	}
	for grew := true; grew; {
		grew = false
		for _, m := range g.Makes {
			for w, cost := range out.row(g, m.To, most) {
				if c, known := out[m.From][w]; !known || cost+1 < c {
					out[m.From][w], grew = cost+1, true
				}
			}
		}
	}
	return out
}

func (x told) row(g api.Grammar, signs []int, most int) map[string]int {
	out := map[string]int{"": 0}
	for _, sign := range signs {
		one := map[string]int{write([]int{sign}): 0}
		if sign >= g.Letters {
			one = x[sign-g.Letters]
		}
		longer := map[string]int{}
		for v, c := range out {
			for w, d := range one {
				if len(v)+len(w) > most {
					continue
				}
				if e, known := longer[v+w]; !known || c+d < e {
					longer[v+w] = c + d
				}
			}
		}
		out = longer
	}
	return out
}

// first answers the first word that is told and is good.
func (x told) first(good func(w string) bool) (string, bool) {
	out, some := "", false
	for w := range x[0] {
		if good(w) && (!some || len(w) < len(out) || len(w) == len(out) && w < out) {
			out, some = w, true
		}
	}
	return out, some
}

func any(string) bool { return true }

func (x told) many(n int) int {
	sum := 0
	for w := range x[0] {
		if len(w) == n {
			sum++
		}
	}
	return sum
}

// words calls see with all words of n letters.
func words(many, n int, see func([]int)) {
	all := 1
	for range n {
		all *= many
	}
	for i := range all {
		w := make([]int, n)
		for k := range w {
			w[k], i = i%many, i/many
		}
		see(w)
	}
}

// lengths answers, of each name, how many letters the words have that one comes to from it: bits up to most.
func lengths(g api.Grammar, most int) []*big.Int {
	out := make([]*big.Int, g.Names)
	for n := range out {
		out[n] = new(big.Int)
	}
	mask := new(big.Int).Sub(new(big.Int).Lsh(big.NewInt(1), uint(most+1)), big.NewInt(1))
	for grew := true; grew; {
		grew = false
		for _, m := range g.Makes {
			row := big.NewInt(1)
			for _, sign := range m.To {
				one := big.NewInt(2)
				if sign >= g.Letters {
					one = out[sign-g.Letters]
				}
				sum := new(big.Int)
				for i := range row.BitLen() {
					if row.Bit(i) == 1 {
						sum.Or(sum, new(big.Int).Lsh(one, uint(i)))
					}
				}
				row = sum.And(sum, mask)
			}
			more := new(big.Int).Or(out[m.From], row)
			grew = grew || more.Cmp(out[m.From]) != 0
			out[m.From] = more
		}
	}
	return out
}

// powers answers 3 to the n: a tree that is no deeper than n has no more leaves.
func powers(n int) int {
	out := 1
	for range n {
		out *= 3
	}
	return out
}

// goesOn tells whether there is no end to the words: just then one is longer than a tree without a name below itself
// has leaves; and the shortest of these is less than twice as long, as it can be cut by no more than that.
func goesOn(g api.Grammar) bool {
	p := powers(g.Names)
	l := lengths(g, 2*p)[0]
	return l.BitLen() > p+1
}

// met answers, of each name, whether it stands in a row that is come to from the name 0 on and that comes to a word,
// by going through rows. Letters are left out of them: a row of none is a word. Rows of more than most names are not
// looked at.
func met(g api.Grammar, start, most int) (ends bool, met []int) {
	rows, number := []string{string(rune('A' + start))}, map[string]int{string(rune('A' + start)): 0}
	var before [][]int
	for i := 0; i < len(rows); i++ {
		before = append(before, nil)
	}
	for i := 0; i < len(rows); i++ {
		if rows[i] == "" {
			continue
		}
		for _, m := range g.Makes {
			if m.From != int(rows[i][0]-'A') {
				continue
			}
			next := ""
			for _, sign := range m.To {
				if sign >= g.Letters {
					next += string(rune('A' + sign - g.Letters))
				}
			}
			next += rows[i][1:]
			if len(next) > most {
				continue
			}
			n, known := number[next]
			if !known {
				n = len(rows)
				number[next] = n
				rows, before = append(rows, next), append(before, nil)
			}
			before[n] = append(before[n], i)
		}
	}
	met = make([]int, g.Names)
	word, ends := number[""]
	if !ends {
		return false, met
	}
	good := map[int]bool{word: true}
	for work := []int{word}; len(work) > 0; work = work[1:] {
		for _, b := range []byte(rows[work[0]]) {
			met[b-'A'] = 1
		}
		for _, i := range before[work[0]] {
			if !good[i] {
				good[i] = true
				work = append(work, i)
			}
		}
	}
	return true, met
}

const far = 1 << 20

// shortest answers how long a word of both is, at least; far: it is that long, or longer; -1: there is none.
func shortest(g api.Grammar, d api.Det) int {
	type reach struct{ name, from, to int }
	known := map[reach]int{}
	for grew := true; grew; {
		grew = false
		for _, m := range g.Makes {
			for from := range d.Next {
				at := map[int]int{from: 0}
				for _, sign := range m.To {
					next := map[int]int{}
					see := func(to, long int) {
						if l, is := next[to]; !is || long < l {
							next[to] = long
						}
					}
					for s, long := range at {
						if sign < g.Letters {
							see(d.Next[s][sign], min(long+1, far))
							continue
						}
						for to := range d.Next {
							if l, is := known[reach{sign - g.Letters, s, to}]; is {
								see(to, min(long+l, far))
							}
						}
					}
					at = next
				}
				for to, long := range at {
					r := reach{m.From, from, to}
					if l, is := known[r]; !is || long < l {
						known[r], grew = long, true
					}
				}
			}
		}
	}
	out := -1
	for s, m := range d.Mark {
		if l, is := known[reach{0, d.Start, s}]; is && m == 1 && (out < 0 || l < out) {
			out = l
		}
	}
	return out
}

func accepts(d api.Det, w []int) bool {
	s := d.Start
	for _, l := range w {
		s = d.Next[s][l]
	}
	return d.Mark[s] == 1
}

// dice is a row of numbers that looks like chance, and is the same each time.
type dice uint32

func (x *dice) roll(n int) int {
	*x = *x*1664525 + 1013904223
	return int(*x>>8) % n
}

// grammar answers one of so many letters, names and rules; the greater lean, the more of its signs are names.
func (x *dice) grammar(many, names, rules, lean int) api.Grammar {
	g := api.Grammar{Letters: many, Names: names}
	for range rules {
		m := api.Make{From: x.roll(names)}
		for range x.roll(4) {
			if x.roll(lean+1) > 0 {
				m.To = append(m.To, many+x.roll(names))
			} else {
				m.To = append(m.To, x.roll(many))
			}
		}
		g.Makes = append(g.Makes, m)
	}
	return g
}

func (x *dice) det(many, states int) api.Det {
	d := api.Det{Letters: many, Start: x.roll(states)}
	for range states {
		row := make([]int, many)
		for l := range row {
			row[l] = x.roll(states)
		}
		d.Next = append(d.Next, row)
		d.Mark = append(d.Mark, x.roll(2))
	}
	return d
}

func (x *dice) word(many, n int) []int {
	w := make([]int, n)
	for i := range w {
		w[i] = x.roll(many)
	}
	return w
}

// holdTells sees that a word is told, or not, or by too many rules only; cost: the fewest rules, 0: none do.
func holdTells(t *testing.T, g api.Grammar, w []int, cost int) {
	t.Helper()
	l, tells, e := gram.Tells(g, w)
	switch {
	case cost == 0:
		if len(l) > 0 || tells || e != api.OK {
			t.Fatalf("%v: %v: %v, %v, %v, but it is not told", g, w, l, tells, e)
		}
	case cost > 2000:
		if len(l) > 0 || tells || e != api.ErrFull {
			t.Fatalf("%v: %v: %v, %v, %v, but it takes %v rules", g, w, l, tells, e, cost)
		}
	default:
		row, can := behind(g, l)
		if !tells || e != api.OK || !can || !slices.Equal(row, w) || len(l) > 2000 {
			t.Fatalf("%v: %v: %v, %v, %v, which leads to %v, %v", g, w, l, tells, e, row, can)
		}
	}
}

// holdFirst sees that the first word is answered of those that are good; all of at most so many letters are known.
func holdFirst(t *testing.T, g api.Grammar, x told, most, long int, good func(string) bool, w []int, some bool, e api.Errno) {
	t.Helper()
	want, is := x.first(good)
	switch {
	case long < 0:
		if len(w) > 0 || some || e != api.OK || is {
			t.Fatalf("%v: %v, %v, %v, but there is none", g, w, some, e)
		}
	case long > 60:
		if len(w) > 0 || some || e != api.ErrFull {
			t.Fatalf("%v: %v, %v, %v, but that has %v letters", g, w, some, e, long)
		}
	case long > most:
		if len(w) != long || !some || e != api.OK || !good(write(w)) {
			t.Fatalf("%v: %v, %v, %v, but that has %v letters", g, w, some, e, long)
		}
	default:
		if write(w) != want || !some || e != api.OK || !is || len(want) != long {
			t.Fatalf("%v: %v, %v, %v, not %v", g, w, some, e, want)
		}
	}
}

// The judges themselves: what they know of some by hand.
func TestJudges(t *testing.T) {
	pairs := read(2, 1, "A>aAb", "A>")
	if fmt.Sprint(pairs) != "{2 1 [{0 [0 2 1]} {0 []}]}" {
		t.Error(pairs)
	}
	if x := tell(pairs, 5); fmt.Sprint(x) != "[map[:1 aabb:3 ab:2]]" {
		t.Error(x)
	}
	if row, can := behind(pairs, []int{0, 0, 1}); !can || write(row) != "aabb" {
		t.Error(row, can)
	}
	for _, l := range [][]int{{1, 1}, {2}, {-1}, {0, 1, 0}} {
		if row, can := behind(pairs, l); can {
			t.Error(l, row)
		}
	}
	if row, can := behind(read(1, 2, "A>BA", "B>a", "A>"), []int{0, 2}); can {
		t.Error("the leftmost name is another:", row)
	}
	x := tell(read(2, 2, "A>BB", "B>a", "B>b", "B>A"), 3)
	if w, some := x.first(any); w != "aa" || !some || x.many(2) != 4 || x.many(3) != 8 || x.many(0) != 0 {
		t.Error(x)
	}
	if l := lengths(pairs, 7)[0]; l.Int64() != 1+4+16+64 {
		t.Error(l)
	}
	if !goesOn(pairs) || goesOn(read(2, 2, "A>BBB", "B>aaa", "A>A")) || !goesOn(read(1, 2, "A>B", "B>Ba", "B>a")) {
		t.Error("goesOn")
	}
	ends, l := met(read(1, 4, "A>aB", "A>CD", "B>", "D>a"), 0, 6)
	if !ends || fmt.Sprint(l) != "[1 1 0 0]" {
		t.Error(ends, l)
	}
	all := api.Det{Letters: 2, Next: [][]int{{1, 1}, {2, 2}, {2, 2}}, Mark: []int{0, 0, 1}}
	if n := shortest(pairs, all); n != 2 {
		t.Error(n)
	}
	n := 0
	words(3, 4, func(w []int) { n += w[3] })
	if n != 81 {
		t.Error(n)
	}
}

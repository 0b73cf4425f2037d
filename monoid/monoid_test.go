package monoid_test

import (
	"reflect"
	"slices"
	"testing"

	"evermore/api"
	"evermore/det"
	"evermore/monoid"
	"evermore/regular"
)

// lines makes an automaton whose start is 0.
func lines(mark []int, next ...[]int) api.Det {
	return api.Det{Letters: len(next[0]), Next: next, Mark: mark}
}

// letters makes an automaton that accepts at its start, 0, of what each letter does.
func letters(does ...[]int) api.Det {
	d := api.Det{Letters: len(does)}
	for s := range does[0] {
		var row []int
		for _, r := range does {
			row = append(row, r[s])
		}
		d.Next = append(d.Next, row)
		d.Mark = append(d.Mark, 0)
	}
	d.Mark[0] = 1
	return d
}

// ring has so many states, one behind the other by the one letter, and accepts at each mark-th one from the first on.
func ring(states, mark int) api.Det {
	d := api.Det{Letters: 1}
	for s := range states {
		d.Next = append(d.Next, []int{(s + 1) % states})
		d.Mark = append(d.Mark, 0)
		if s%mark == 0 {
			d.Mark[s] = 1
		}
	}
	return d
}

// text makes an automaton over two letters.
func text(t *testing.T, s string) api.Det {
	t.Helper()
	d, e := regular.Det(2, s)
	if e != api.OK {
		t.Fatal(s, e)
	}
	return d
}

// dice is a row of numbers that looks like chance, and is the same each time.
type dice uint32

func (x *dice) roll(n int) int {
	*x = *x*1664525 + 1013904223
	return int(*x>>8) % n
}

func (x *dice) det(letters, states int) api.Det {
	d := api.Det{Letters: letters, Start: x.roll(states)}
	for range states {
		row := make([]int, letters)
		for l := range row {
			row[l] = x.roll(states)
		}
		d.Next = append(d.Next, row)
		d.Mark = append(d.Mark, x.roll(2))
	}
	return d
}

func (x *dice) word(letters, long int) []int {
	w := make([]int, long)
	for i := range w {
		w[i] = x.roll(letters)
	}
	return w
}

// behindOf goes from a state letter by letter.
func behindOf(d api.Det, s int, w []int) int {
	for _, l := range w {
		s = d.Next[s][l]
	}
	return s
}

func accepts(d api.Det, parts ...[]int) bool {
	return d.Mark[behindOf(d, d.Start, slices.Concat(parts...))] == 1
}

func rowOf(d api.Det, w []int) []int {
	r := make([]int, len(d.Next))
	for s := range r {
		r[s] = behindOf(d, s, w)
	}
	return r
}

// words calls see with each word of at most n letters, in their order, while it answers true.
func words(letters, n int, see func([]int) bool) {
	row := [][]int{{}}
	for range n + 1 {
		var longer [][]int
		for _, w := range row {
			if !see(w) {
				return
			}
			for l := range letters {
				longer = append(longer, append(slices.Clone(w), l))
			}
		}
		row = longer
	}
}

// plain goes through all words of at most n letters: which rows they do; the first one that counts, and how often.
func plain(d api.Det, n int) (rows [][]int, first []int, times int) {
	words(d.Letters, n, func(w []int) bool {
		r := rowOf(d, w)
		if !slices.ContainsFunc(rows, func(x []int) bool { return slices.Equal(x, r) }) {
			rows = append(rows, r)
		}
		if times == 0 {
			first, times = w, backBehind(d, w)
		}
		return true
	})
	return rows, first, times
}

// backBehind looks, number by number, for a state that is come back to behind so many times, and not behind fewer.
func backBehind(d api.Det, w []int) int {
	for n := 2; n <= len(d.Next); n++ {
		for s := range d.Next {
			fewer := false
			for k := 1; k < n; k++ {
				fewer = fewer || behindOf(d, s, slices.Repeat(w, k)) == s
			}
			if !fewer && behindOf(d, s, slices.Repeat(w, n)) == s {
				return n
			}
		}
	}
	return 0
}

// small calls see with each automaton of so many letters and states, at whatever state it starts.
func small(letters, states int, see func(api.Det)) {
	all := 1
	for range letters * states {
		all *= states
	}
	for x := range all {
		for marks := range 1 << states {
			d, y := api.Det{Letters: letters, Start: (x + marks) % states}, x
			for s := range states {
				row := make([]int, letters)
				for l := range row {
					row[l], y = y%states, y/states
				}
				d.Next = append(d.Next, row)
				d.Mark = append(d.Mark, marks>>s&1)
			}
			see(d)
		}
	}
}

// D1, D3: all small automata, held against all short words. No row of at most three states needs a longer word.
func TestSmall(t *testing.T) {
	counting, most := 0, 0
	for _, x := range [][2]int{{1, 1}, {1, 2}, {1, 3}, {2, 1}, {2, 2}, {2, 3}} {
		small(x[0], x[1], func(d api.Det) {
			least, _ := det.Least(d)
			rows, first, times := plain(least, 8)
			got, e := monoid.Elements(d)
			if !reflect.DeepEqual(got, rows) || e != api.OK {
				t.Fatalf("%v: the elements are %v, %v, not %v", d, got, e, rows)
			}
			w, n, counts, e := monoid.Counts(d)
			if n != times || counts != (times > 0) || counts && !slices.Equal(w, first) || !counts && len(w) > 0 || e != api.OK {
				t.Fatalf("%v: Counts is %v, %v, %v, %v, not %v, %v", d, w, n, counts, e, first, times)
			}
			most = max(most, len(rows))
			if counts {
				counting++
			}
		})
	}
	if counting < 100 || most < 20 {
		t.Error(counting, most)
	}
}

// D1, D3: greater ones, held against their rows: each letter behind each row does a row of them, in the order of
// the first words.
func TestElementsGreater(t *testing.T) {
	x, tried, many := dice(1), 0, 0
	for i := range 400 {
		d := x.det(1+i%4, 4+x.roll(2))
		least, _ := det.Least(d)
		if len(least.Next) > 5 {
			continue
		}
		got, e := monoid.Elements(d)
		want, firsts := bySearch(least)
		if !reflect.DeepEqual(got, want) || e != api.OK {
			t.Fatalf("%v: %d elements, %v, not %d", d, len(got), e, len(want))
		}
		var first []int
		times := 0
		for i := 0; i < len(firsts) && times == 0; i++ {
			first, times = firsts[i], backBehind(least, firsts[i])
		}
		w, n, counts, e := monoid.Counts(d)
		if n != times || counts != (times > 0) || counts && !slices.Equal(w, first) || e != api.OK {
			t.Fatalf("%v: Counts is %v, %v, %v, %v, not %v, %v", d, w, n, counts, e, first, times)
		}
		tried++
		many = max(many, len(got))
	}
	if tried < 300 || many < 500 {
		t.Error(tried, many)
	}
}

// bySearch keeps the words of one length that do something new, and goes on from these.
func bySearch(d api.Det) (rows, firsts [][]int) {
	seen := map[[5]int]bool{}
	longest := [][]int{{}}
	for len(longest) > 0 {
		var longer [][]int
		for _, w := range longest {
			var key [5]int
			r := rowOf(d, w)
			copy(key[:], r)
			if seen[key] {
				continue
			}
			seen[key] = true
			rows, firsts = append(rows, r), append(firsts, w)
			for l := range d.Letters {
				longer = append(longer, append(slices.Clone(w), l))
			}
		}
		longest = longer
	}
	return rows, firsts
}

// D1: the chapter's examples, and the edges.
func TestElementsByHand(t *testing.T) {
	for _, x := range []struct {
		name string
		d    api.Det
		want [][]int
	}{
		{"an even number of 0", lines([]int{1, 0}, []int{1, 0}, []int{0, 1}), [][]int{{0, 1}, {1, 0}}},
		{"ends with 0", lines([]int{0, 1}, []int{1, 0}, []int{1, 0}), [][]int{{0, 1}, {1, 1}, {0, 0}}},
		{"all words", lines([]int{1}, []int{0}), [][]int{{0}}},
		{"all words, by many states", ring(3000, 1), [][]int{{0}}},
		{"no word", lines([]int{0, 0}, []int{1, 0}, []int{1, 1}), [][]int{{0}}},
		{"the empty word", lines([]int{1, 0}, []int{1}, []int{1}), [][]int{{0, 1}, {1, 1}}},
		{"what is not come to does not matter", lines([]int{1, 0, 1}, []int{1}, []int{0}, []int{1}), [][]int{{0, 1}, {1, 0}}},
		{"numbered anew", api.Det{Letters: 1, Start: 1, Next: [][]int{{1}, {0}}, Mark: []int{0, 1}}, [][]int{{0, 1}, {1, 0}}},
		{"five in a ring", ring(3000, 5), [][]int{{0, 1, 2, 3, 4}, {1, 2, 3, 4, 0}, {2, 3, 4, 0, 1}, {3, 4, 0, 1, 2}, {4, 0, 1, 2, 3}}},
		{"the letter 1 ahead of 0 0", text(t, "aa"), [][]int{{0, 1, 2, 3}, {1, 3, 2, 2}, {2, 2, 2, 2}, {3, 2, 2, 2}}},
	} {
		got, e := monoid.Elements(x.d)
		if !reflect.DeepEqual(got, x.want) || e != api.OK {
			t.Errorf("%s: %v, %v, not %v", x.name, got, e, x.want)
		}
	}
}

// whole does all that can be done to five states: it turns, swaps, and joins.
func whole() api.Det {
	return letters([]int{1, 2, 3, 4, 0}, []int{1, 0, 2, 3, 4}, []int{0, 0, 2, 3, 4})
}

// D1: there may be as many rows as five states have.
func TestElementsOfWhole(t *testing.T) {
	got, e := monoid.Elements(whole())
	want, _ := bySearch(whole())
	if len(got) != 3125 || !reflect.DeepEqual(got, want) || e != api.OK {
		t.Error(len(got), e)
	}
}

// D1: what all calls refuse: C1's errors, then too many states.
func TestRefusesAutomata(t *testing.T) {
	for _, x := range []struct {
		name string
		d    api.Det
		want api.Errno
	}{
		{"zero", api.Det{}, api.ErrRange},
		{"five letters", api.Det{Letters: 5, Next: [][]int{{0, 0, 0, 0, 0}}, Mark: []int{0}}, api.ErrRange},
		{"no states", api.Det{Letters: 1}, api.ErrSize},
		{"too many states", ring(3001, 1), api.ErrSize},
		{"no marks", api.Det{Letters: 1, Next: [][]int{{0}}}, api.ErrShape},
		{"a row too long", api.Det{Letters: 1, Next: [][]int{{0, 0}}, Mark: []int{1}}, api.ErrShape},
		{"no state", lines([]int{1}, []int{1}), api.ErrRange},
		{"no start", api.Det{Letters: 1, Start: -1, Next: [][]int{{0}}, Mark: []int{1}}, api.ErrRange},
		{"no mark", lines([]int{2}, []int{0}), api.ErrRange},
		{"six that are apart", ring(6, 6), api.ErrSize},
		{"many that are apart", ring(3000, 3000), api.ErrSize},
		{"six, one of them no state's", lines([]int{1, 0, 0, 0, 0, 0}, []int{1}, []int{2}, []int{3}, []int{4}, []int{5}, []int{6}), api.ErrRange},
		{"five that are apart", ring(5, 5), api.OK},
		{"five of six that are come to", lines([]int{1, 0, 0, 0, 0, 0}, []int{1}, []int{2}, []int{3}, []int{4}, []int{0}, []int{0}), api.OK},
	} {
		rows, e := monoid.Elements(x.d)
		if e != x.want || e != api.OK && len(rows) > 0 {
			t.Errorf("%s: Elements: %v, not %v", x.name, e, x.want)
		}
		w, n, counts, e := monoid.Counts(x.d)
		if e != x.want || e != api.OK && (len(w) > 0 || n != 0 || counts) {
			t.Errorf("%s: Counts: %v, not %v", x.name, e, x.want)
		}
		for _, wrong := range [][]int{nil, {-1}, make([]int, 61)} {
			before, behind, alike, e := monoid.Alike(x.d, wrong, nil)
			if x.want != api.OK && (e != x.want || len(before)+len(behind) > 0 || alike) {
				t.Errorf("%s: Alike: %v, not %v", x.name, e, x.want)
			}
		}
	}
}

// D2: what is wrong with the words, u's ahead of v's.
func TestRefusesWords(t *testing.T) {
	d := lines([]int{1, 0}, []int{1, 0}, []int{0, 1})
	longest, long, none, below := make([]int, 60), make([]int, 61), []int{0, 2}, []int{-1}
	both := slices.Repeat([]int{2}, 61)
	for _, x := range []struct {
		name string
		u, v []int
		want api.Errno
	}{
		{"as long as may be", longest, longest, api.OK},
		{"u too long", long, nil, api.ErrSize},
		{"v too long", nil, long, api.ErrSize},
		{"no letter in u", none, nil, api.ErrRange},
		{"no letter in v", nil, none, api.ErrRange},
		{"below all letters in u", below, nil, api.ErrRange},
		{"below all letters in v", nil, below, api.ErrRange},
		{"u ahead of v", none, long, api.ErrRange},
		{"u ahead of v, too long", long, none, api.ErrSize},
		{"its size first", nil, both, api.ErrSize},
	} {
		before, behind, alike, e := monoid.Alike(d, x.u, x.v)
		if e != x.want || alike != (e == api.OK) || len(before)+len(behind) > 0 {
			t.Errorf("%s: %v, %v, %v, %v, not %v", x.name, before, behind, alike, e, x.want)
		}
	}
	if _, _, _, e := monoid.Alike(ring(2, 2), []int{1}, nil); e != api.ErrRange {
		t.Error("d's letters are not asked for:", e)
	}
}

// D2: held against the rows, and against what is accepted by the automaton that was handed in.
func TestAlike(t *testing.T) {
	x, told, same, ahead, after := dice(2), 0, 0, 0, 0
	for i := range 3000 {
		d := x.det(1+i%4, 1+x.roll(6))
		least, _ := det.Least(d)
		if len(least.Next) > 5 {
			continue
		}
		u, v := x.word(d.Letters, x.roll(5)), x.word(d.Letters, x.roll(61))
		before, behind, alike, e := monoid.Alike(d, u, v)
		if e != api.OK || alike != slices.Equal(rowOf(least, u), rowOf(least, v)) {
			t.Fatalf("%v: %v, %v: %v, %v", d, u, v, alike, e)
		}
		if alike && len(before)+len(behind) > 0 || !alike && accepts(d, before, u, behind) == accepts(d, before, v, behind) {
			t.Fatalf("%v: %v, %v: %v, %v, %v", d, u, v, before, behind, alike)
		}
		if alike {
			same++
			continue
		}
		told++
		ahead += len(before)
		after += len(behind)
	}
	if told < 300 || same < 300 || ahead == 0 || after == 0 {
		t.Error(told, same, ahead, after)
	}
}

// D2: two words are alike just if no words ahead of them and behind them tell them apart.
func TestAlikeByWords(t *testing.T) {
	x := dice(3)
	for range 60 {
		d := x.det(2, 1+x.roll(4))
		u, v := x.word(2, x.roll(4)), x.word(2, x.roll(4))
		told := false
		words(2, 3, func(before []int) bool {
			words(2, 3, func(behind []int) bool {
				told = told || accepts(d, before, u, behind) != accepts(d, before, v, behind)
				return !told
			})
			return !told
		})
		if _, _, alike, e := monoid.Alike(d, u, v); alike == told || e != api.OK {
			t.Fatalf("%v: %v, %v: %v, %v", d, u, v, alike, e)
		}
	}
}

func TestAlikeByHand(t *testing.T) {
	for _, x := range []struct {
		text, u, v string
		want       bool
	}{
		{"(aa)*", "a", "aaa", true},
		{"(aa)*", "", "aa", true},
		{"(aa)*", "b", "abab", true},
		{"(aa)*", "", "a", false},
		{"(aa)*", "", "b", false},
		{"(a+b)*a", "a", "ba", true},
		{"(a+b)*a", "", "a", false},
		{"(a+b)*a", "", "b", false},
		{"(a+b)*a", "ab", "ba", false},
		{"a*b", "b", "aab", true},
		{"a*b", "a", "aaaa", true},
		{"a*b", "", "a", false},
		{"a*b", "bb", "ba", true},
		{"(ab)*", "a", "aba", true},
		{"(ab)*", "ab", "ba", false},
		{"ab(a+b)*", "aa", "b", false},
		{"0", "", "ab", true},
		{"(a+b)*", "a", "", true},
	} {
		d := text(t, x.text)
		u, v := numbers(x.u), numbers(x.v)
		before, behind, alike, e := monoid.Alike(d, u, v)
		if alike != x.want || e != api.OK || !alike && accepts(d, before, u, behind) == accepts(d, before, v, behind) {
			t.Errorf("%s: %q, %q: %v, %v, %v, %v", x.text, x.u, x.v, before, behind, alike, e)
		}
	}
}

func numbers(s string) []int {
	var w []int
	for _, c := range s {
		w = append(w, int(c-'a'))
	}
	return w
}

// D3: the chapter's examples, and the edges.
func TestCountsByHand(t *testing.T) {
	for _, x := range []struct {
		name string
		d    api.Det
		w    []int
		n    int
	}{
		{"an even number of 0", lines([]int{1, 0}, []int{1, 0}, []int{0, 1}), []int{0}, 2},
		{"an even number of 1", lines([]int{1, 0}, []int{0, 1}, []int{1, 0}), []int{1}, 2},
		{"ends with 0", lines([]int{0, 1}, []int{1, 0}, []int{1, 0}), nil, 0},
		{"all words", lines([]int{1}, []int{0}), nil, 0},
		{"a ring whose states are alike", ring(4, 1), nil, 0},
		{"a ring that is not come to", lines([]int{0, 0, 1}, []int{0}, []int{2}, []int{1}), nil, 0},
		{"five times", ring(3000, 5), []int{0}, 5},
		{"two, not three", letters([]int{1, 0, 3, 4, 2}, []int{1, 2, 3, 4, 0}), []int{0}, 2},
		{"two, not three, the other way", letters([]int{1, 2, 0, 4, 3}, []int{1, 2, 3, 4, 0}), []int{0}, 2},
		{"back to another state than the start", lines([]int{1, 0, 1}, []int{1}, []int{2}, []int{1}), []int{0}, 2},
		{"not at the first time", lines([]int{0, 1, 0}, []int{1}, []int{2}, []int{2}), nil, 0},
		{"the first of two", letters([]int{0, 2, 1}, []int{1, 2, 0}), []int{0}, 2},
		{"the second has fewer times", letters([]int{1, 2, 0}, []int{1, 0, 2}), []int{0}, 3},
		{"two of three states", text(t, "((a+b)a)*"), []int{0}, 2},
		{"no letter alone", text(t, "(abab)*"), []int{0, 1}, 2},
		{"around, but at the first time", text(t, "b(bba)*"), nil, 0},
	} {
		w, n, counts, e := monoid.Counts(x.d)
		if !slices.Equal(w, x.w) || n != x.n || counts != (x.n > 0) || e != api.OK {
			t.Errorf("%s: %v, %v, %v, %v, not %v, %v", x.name, w, n, counts, e, x.w, x.n)
		}
	}
}

// P3: what is handed in is left as it is, nothing that comes out shares its memory, no two rows share any.
func TestMemory(t *testing.T) {
	roomy := func(row ...int) []int { return append(row, 99, 99)[:len(row)] }
	d := api.Det{Letters: 2, Next: [][]int{roomy(1, 0), roomy(1, 2), roomy(0, 2), nil}[:3], Mark: roomy(0, 1, 0)}
	u, v := roomy(0, 1), roomy(1)
	check := func(call string) {
		t.Helper()
		want := [][]int{{1, 0, 99}, {1, 2, 99}, {0, 2, 99}}
		for s, row := range d.Next {
			if !slices.Equal(row[:3], want[s]) {
				t.Error(call, row[:3])
			}
		}
		if !slices.Equal(d.Mark[:4], []int{0, 1, 0, 99}) || !slices.Equal(u[:3], []int{0, 1, 99}) || !slices.Equal(v[:2], []int{1, 99}) {
			t.Error(call, d.Mark[:4], u[:3], v[:2])
		}
	}
	rows, _ := monoid.Elements(d)
	before, behind, _, _ := monoid.Alike(d, u, v)
	w, _, _, _ := monoid.Counts(d)
	check("calls")
	want, _ := monoid.Elements(d)
	for _, l := range append([][]int{before, behind, w}, rows...) {
		l = append(l, -7)
		for i := range l {
			l[i] = -9
		}
	}
	for i := range rows {
		rows[i] = append(rows[i], i)
		for s := range rows[i] {
			rows[i][s] = i
		}
	}
	for i, r := range rows {
		if len(r) != 1+len(want[i]) || slices.Min(r) != i || slices.Max(r) != i {
			t.Error("rows share memory:", rows)
		}
	}
	check("writing")
	if again, _ := monoid.Elements(d); !reflect.DeepEqual(again, want) {
		t.Error(again, want)
	}
}

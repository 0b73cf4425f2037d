package det_test

import (
	"math/big"
	"reflect"
	"slices"
	"testing"

	"evermore/api"
	"evermore/det"
)

// lines makes an automaton whose start is 0.
func lines(mark []int, next ...[]int) api.Det {
	return api.Det{Letters: len(next[0]), Next: next, Mark: mark}
}

// ring has so many states, one behind the other, by each letter, and accepts at the first one.
func ring(letters, states int) api.Det {
	d := api.Det{Letters: letters}
	for s := range states {
		d.Next = append(d.Next, slices.Repeat([]int{(s + 1) % states}, letters))
		d.Mark = append(d.Mark, 0)
	}
	d.Mark[0] = 1
	return d
}

// dice is a row of numbers that looks like chance, and is the same each time.
type dice uint32

func (x *dice) roll(n int) int {
	*x = *x*1664525 + 1013904223
	return int(*x>>8) % n
}

func (x *dice) det(letters, states int) api.Det {
	d := api.Det{Letters: letters, Start: x.roll(states)}
	for range states {
		row := make([]int, letters)
		for l := range row {
			row[l] = x.roll(states)
		}
		d.Next = append(d.Next, row)
		d.Mark = append(d.Mark, x.roll(2))
	}
	return d
}

func deep(d api.Det) api.Det {
	out := api.Det{Letters: d.Letters, Start: d.Start, Mark: slices.Clone(d.Mark)}
	for _, row := range d.Next {
		out.Next = append(out.Next, slices.Clone(row))
	}
	return out
}

// behind goes letter by letter.
func behind(d api.Det, s int, w []int) int {
	for _, l := range w {
		s = d.Next[s][l]
	}
	return s
}

func marked(d api.Det, w []int) bool { return d.Mark[behind(d, d.Start, w)] == 1 }

// words calls see with each word of at most n letters, in their order, while it answers true.
func words(letters, n int, see func([]int) bool) {
	row := [][]int{{}}
	for range n + 1 {
		var longer [][]int
		for _, w := range row {
			if !see(w) {
				return
			}
			for l := range letters {
				longer = append(longer, append(slices.Clone(w), l))
			}
		}
		row = longer
	}
}

// small calls see with each automaton of so many letters and states.
func small(letters, states int, see func(api.Det)) {
	all := 1
	for range letters * states {
		all *= states
	}
	for x := range all {
		for marks := range 1 << states {
			for start := range states {
				d, y := api.Det{Letters: letters, Start: start}, x
				for s := range states {
					row := make([]int, letters)
					for l := range row {
						row[l], y = y%states, y/states
					}
					d.Next = append(d.Next, row)
					d.Mark = append(d.Mark, marks>>s&1)
				}
				see(d)
			}
		}
	}
}

// C1, in the order of its errors.
func TestCheck(t *testing.T) {
	right := func() api.Det { return lines([]int{0, 1, 0}, []int{0, 1}, []int{2, 1}, []int{0, 2}) }
	for _, x := range []struct {
		name   string
		change func(*api.Det)
		want   api.Errno
	}{
		{"right", func(d *api.Det) {}, api.OK},
		{"the last state first", func(d *api.Det) { d.Start = 2 }, api.OK},
		{"all accept", func(d *api.Det) { d.Mark = []int{1, 1, 1} }, api.OK},
		{"zero", func(d *api.Det) { *d = api.Det{} }, api.ErrRange},
		{"no letters", func(d *api.Det) { d.Letters = 0 }, api.ErrRange},
		{"fewer than no letters", func(d *api.Det) { d.Letters = -1 }, api.ErrRange},
		{"five letters", func(d *api.Det) { d.Letters = 5 }, api.ErrRange},
		{"letters ahead of size", func(d *api.Det) { *d = api.Det{Letters: 5} }, api.ErrRange},
		{"no states", func(d *api.Det) { d.Next, d.Mark = nil, nil }, api.ErrSize},
		{"no states, but marks", func(d *api.Det) { d.Next = nil }, api.ErrSize},
		{"too few marks", func(d *api.Det) { d.Mark = d.Mark[:2] }, api.ErrShape},
		{"too many marks", func(d *api.Det) { d.Mark = append(d.Mark, 0) }, api.ErrShape},
		{"no marks", func(d *api.Det) { d.Mark = nil }, api.ErrShape},
		{"a row too short", func(d *api.Det) { d.Next[2] = []int{0} }, api.ErrShape},
		{"a row too long", func(d *api.Det) { d.Next[0] = []int{0, 0, 0} }, api.ErrShape},
		{"no row", func(d *api.Det) { d.Next[1] = nil }, api.ErrShape},
		{"fewer letters than rows have", func(d *api.Det) { d.Letters = 1 }, api.ErrShape},
		{"shape ahead of a number", func(d *api.Det) { d.Next[0][0] = 9; d.Next[2] = nil }, api.ErrShape},
		{"marks' shape ahead of a number", func(d *api.Det) { d.Start = 9; d.Mark = append(d.Mark, 7) }, api.ErrShape},
		{"leads beyond", func(d *api.Det) { d.Next[2][1] = 3 }, api.ErrRange},
		{"leads below", func(d *api.Det) { d.Next[0][0] = -1 }, api.ErrRange},
		{"starts beyond", func(d *api.Det) { d.Start = 3 }, api.ErrRange},
		{"starts below", func(d *api.Det) { d.Start = -1 }, api.ErrRange},
		{"a mark of 2", func(d *api.Det) { d.Mark[2] = 2 }, api.ErrRange},
		{"a mark below 0", func(d *api.Det) { d.Mark[0] = -1 }, api.ErrRange},
	} {
		d := right()
		x.change(&d)
		if e := det.Check(d); e != x.want {
			t.Errorf("%s: %v, not %v", x.name, e, x.want)
		}
		refuseAll(t, x.name, d, x.want)
	}
}

// refuseAll holds the other calls to Check's error, and to nothing beside it.
func refuseAll(t *testing.T, name string, d api.Det, want api.Errno) {
	t.Helper()
	if want == api.OK {
		return
	}
	good := lines([]int{1}, []int{0, 0, 0})
	empty := func(call string, x, e any) {
		t.Helper()
		if !reflect.ValueOf(x).IsZero() || e != want {
			t.Errorf("%s: %s answers %v, %v, not %v", name, call, x, e, want)
		}
	}
	is, e := det.Accepts(d, []int{9})
	empty("Accepts", is, e)
	l, e := det.Least(d)
	empty("Least", l, e)
	w, is, e := det.Apart(d, -1, 9)
	empty("Apart", w, e)
	empty("Apart", is, e)
	m, e := det.Mixed(d, good, 16)
	empty("Mixed", m, e)
	m, e = det.Mixed(good, d, 16)
	empty("Mixed", m, e)
	w, is, e = det.Differ(d, good)
	empty("Differ", w, e)
	empty("Differ", is, e)
	w, is, e = det.Differ(good, d)
	empty("Differ", w, e)
	empty("Differ", is, e)
	s, e := det.Count(d, -1)
	empty("Count", s, e)
}

// C1: MaxDet.
func TestCheckSize(t *testing.T) {
	if e := det.Check(ring(1, 3000)); e != api.OK {
		t.Error(e)
	}
	if e := det.Check(ring(4, 3001)); e != api.ErrSize {
		t.Error(e)
	}
	d := ring(2, 3001)
	d.Mark, d.Start = nil, -1
	if e := det.Check(d); e != api.ErrSize {
		t.Error(e)
	}
	refuseAll(t, "too many", d, api.ErrSize)
}

// C1: of two that are wrong the first one is told.
func TestFirstOfTwo(t *testing.T) {
	range1, shape := api.Det{}, lines(nil, []int{0})
	if _, e := det.Mixed(range1, shape, 0); e != api.ErrRange {
		t.Error(e)
	}
	if _, e := det.Mixed(shape, range1, 0); e != api.ErrShape {
		t.Error(e)
	}
	if _, _, e := det.Differ(range1, shape); e != api.ErrRange {
		t.Error(e)
	}
	if _, _, e := det.Differ(shape, range1); e != api.ErrShape {
		t.Error(e)
	}
}

// C2.
func TestAccepts(t *testing.T) {
	d := lines([]int{0, 1, 0}, []int{0, 1}, []int{2, 1}, []int{2, 2})
	d.Start = 1
	for _, x := range []struct {
		w  []int
		is bool
		e  api.Errno
	}{
		{nil, true, api.OK},
		{[]int{1, 1}, true, api.OK},
		{[]int{1, 0}, false, api.OK},
		{[]int{0, 1}, false, api.OK},
		{slices.Repeat([]int{1}, 60), true, api.OK},
		{slices.Repeat([]int{1}, 61), false, api.ErrSize},
		{slices.Repeat([]int{2}, 61), false, api.ErrSize},
		{[]int{2}, false, api.ErrRange},
		{[]int{1, -1}, false, api.ErrRange},
	} {
		if is, e := det.Accepts(d, x.w); is != x.is || e != x.e {
			t.Errorf("%v: %v, %v", x.w, is, e)
		}
	}
}

// pairsApart marks, until no more comes, the pairs of states that some word tells apart.
func pairsApart(d api.Det) [][]bool {
	n := len(d.Next)
	told := make([][]bool, n)
	for p := range n {
		told[p] = make([]bool, n)
		for q := range n {
			told[p][q] = d.Mark[p] != d.Mark[q]
		}
	}
	for more := true; more; {
		more = false
		for p := range n {
			for q := range n {
				for l := range d.Letters {
					if !told[p][q] && told[d.Next[p][l]][d.Next[q][l]] {
						told[p][q], more = true, true
					}
				}
			}
		}
	}
	return told
}

// fewest counts the states that are come to, those that no word tells apart as one.
func fewest(d api.Det) int {
	told, come := pairsApart(d), []int{d.Start}
	for i := 0; i < len(come); i++ {
		for _, s := range d.Next[come[i]] {
			if !slices.Contains(come, s) {
				come = append(come, s)
			}
		}
	}
	many := 0
	for i, p := range come {
		if !slices.ContainsFunc(come[:i], func(q int) bool { return !told[p][q] }) {
			many++
		}
	}
	return many
}

// numbered tells whether states come one behind the other, state by state, letter by letter, from 0 on.
func numbered(d api.Det) bool {
	many := 1
	for s, row := range d.Next {
		if s >= many {
			return false
		}
		for _, x := range row {
			if x > many {
				return false
			}
			many = max(many, x+1)
		}
	}
	return d.Start == 0 && many == len(d.Next)
}

func checkLeast(t *testing.T, d api.Det) {
	t.Helper()
	l, e := det.Least(d)
	if e != api.OK || det.Check(l) != api.OK || l.Letters != d.Letters || len(l.Next) != fewest(d) || !numbered(l) {
		t.Fatalf("%v: Least is %v, %v", d, l, e)
	}
	words(d.Letters, 4, func(w []int) bool {
		if marked(l, w) != marked(d, w) {
			t.Errorf("%v: Least is %v: not alike at %v", d, l, w)
		}
		return true
	})
}

// C3.
func TestLeastOfSmall(t *testing.T) {
	small(1, 1, func(d api.Det) { checkLeast(t, d) })
	small(2, 2, func(d api.Det) { checkLeast(t, d) })
	small(1, 4, func(d api.Det) { checkLeast(t, d) })
	small(2, 3, func(d api.Det) { checkLeast(t, d) })
}

func TestLeastOfMany(t *testing.T) {
	x := dice(1)
	for i := range 600 {
		checkLeast(t, x.det(1+i%4, 1+x.roll(12)))
	}
}

// C3: there is just one, however states are doubled and numbered.
func TestLeastIsOne(t *testing.T) {
	x := dice(2)
	for i := range 200 {
		d := x.det(1+i%4, 2+x.roll(6))
		n := len(d.Next)
		place := []int{}
		for s := range 3 * n {
			place = slices.Insert(place, x.roll(len(place)+1), s)
		}
		big := api.Det{Letters: d.Letters, Start: place[d.Start+n], Next: make([][]int, 3*n), Mark: make([]int, 3*n)}
		for s := range 3 * n {
			row := make([]int, d.Letters)
			for l := range row {
				row[l] = place[d.Next[s%n][l]+n*x.roll(3)]
			}
			big.Next[place[s]], big.Mark[place[s]] = row, d.Mark[s%n]
		}
		a, _ := det.Least(d)
		b, e := det.Least(big)
		c, _ := det.Least(a)
		if !reflect.DeepEqual(a, b) || !reflect.DeepEqual(a, c) || e != api.OK {
			t.Fatal(d, a, b, c, e)
		}
	}
}

func TestLeastByHand(t *testing.T) {
	for _, x := range []struct {
		name    string
		d, want api.Det
	}{
		{"all words", api.Det{Letters: 1, Start: 2, Next: [][]int{{1}, {2}, {0}}, Mark: []int{1, 1, 1}}, lines([]int{1}, []int{0})},
		{"no words", api.Det{Letters: 2, Start: 1, Next: [][]int{{0, 1}, {0, 0}}, Mark: []int{0, 0}}, lines([]int{0}, []int{0, 0})},
		{"one that nothing leads to", api.Det{Letters: 1, Start: 1, Next: [][]int{{1}, {1}}, Mark: []int{1, 0}}, lines([]int{0}, []int{0})},
		{"numbered anew", api.Det{Letters: 2, Start: 2, Next: [][]int{{0, 0}, {0, 2}, {2, 1}}, Mark: []int{1, 0, 0}},
			lines([]int{0, 0, 1}, []int{0, 1}, []int{2, 0}, []int{2, 2})},
		{"told apart late", lines([]int{0, 0, 0, 1, 0}, []int{1}, []int{2}, []int{3}, []int{4}, []int{4}),
			lines([]int{0, 0, 0, 1, 0}, []int{1}, []int{2}, []int{3}, []int{4}, []int{4})},
	} {
		got, e := det.Least(x.d)
		if !reflect.DeepEqual(got, x.want) || e != api.OK {
			t.Errorf("%s: %v, %v, not %v", x.name, got, e, x.want)
		}
	}
}

// C3: the largest, in which states are told apart by their longest words.
func TestLeastOfLargest(t *testing.T) {
	for letters := 1; letters <= 4; letters++ {
		d := ring(letters, 3000)
		if l, e := det.Least(d); !reflect.DeepEqual(l, d) || e != api.OK {
			t.Error(letters, len(l.Next), e)
		}
	}
	twice := ring(1, 3000)
	twice.Mark[1500] = 1
	if l, e := det.Least(twice); !reflect.DeepEqual(l, ring(1, 1500)) || e != api.OK {
		t.Error(len(l.Next), e)
	}
	one := ring(4, 3000)
	one.Mark[0] = 0
	if l, e := det.Least(one); len(l.Next) != 1 || e != api.OK {
		t.Error(len(l.Next), e)
	}
}

// C4.
func TestApartOfMany(t *testing.T) {
	x, alike := dice(3), 0
	for i := range 300 {
		d := x.det(1+i%3, 1+x.roll(5))
		told := pairsApart(d)
		for p := range d.Next {
			for q := range d.Next {
				w, is, e := det.Apart(d, p, q)
				if is != told[p][q] || e != api.OK || !is && len(w) != 0 {
					t.Fatalf("%v: Apart of %d, %d is %v, %v, %v", d, p, q, w, is, e)
				}
				if !is {
					alike++
					continue
				}
				words(d.Letters, len(d.Next), func(v []int) bool {
					apart := d.Mark[behind(d, p, v)] != d.Mark[behind(d, q, v)]
					if apart && !slices.Equal(v, w) {
						t.Fatalf("%v: Apart of %d, %d is %v, not %v", d, p, q, w, v)
					}
					return !apart
				})
			}
		}
	}
	if alike == 0 {
		t.Error("all pairs are apart")
	}
}

// C4: states that are not come to count, too; the first word is the shortest, then the least.
func TestApartByHand(t *testing.T) {
	d := lines([]int{0, 0, 0, 0, 1, 0}, []int{0, 0}, []int{2, 4}, []int{4, 4}, []int{5, 3}, []int{5, 5}, []int{5, 5})
	for _, x := range []struct {
		p, q int
		w    []int
		told bool
		e    api.Errno
	}{
		{1, 1, nil, false, api.OK},
		{0, 5, nil, false, api.OK},
		{3, 0, nil, false, api.OK},
		{4, 5, []int{}, true, api.OK},
		{1, 2, []int{0}, true, api.OK},
		{0, 1, []int{1}, true, api.OK},
		{2, 5, []int{0}, true, api.OK},
		{6, 0, nil, false, api.ErrRange},
		{0, 6, nil, false, api.ErrRange},
		{-1, 0, nil, false, api.ErrRange},
		{0, -1, nil, false, api.ErrRange},
		{6, 6, nil, false, api.ErrRange},
	} {
		w, told, e := det.Apart(d, x.p, x.q)
		if !slices.Equal(w, x.w) || told != x.told || e != x.e {
			t.Errorf("%d, %d: %v, %v, %v", x.p, x.q, w, told, e)
		}
	}
}

// C4: a word may be longer than MaxWord.
func TestApartOfLargest(t *testing.T) {
	d := ring(4, 3000)
	w, told, e := det.Apart(d, 1, 2)
	if !slices.Equal(w, make([]int, 2998)) || !told || e != api.OK {
		t.Error(len(w), told, e)
	}
	twice := ring(2, 3000)
	twice.Mark[1500] = 1
	if w, told, e := det.Apart(twice, 7, 1507); len(w) != 0 || told || e != api.OK {
		t.Error(w, told, e)
	}
}

// C5: each table, held against the words.
func TestMixed(t *testing.T) {
	x := dice(4)
	for i := range 60 {
		letters := 1 + i%3
		a, b := x.det(letters, 1+x.roll(5)), x.det(letters, 1+x.roll(5))
		for table := range 16 {
			m, e := det.Mixed(a, b, table)
			if l, _ := det.Least(m); e != api.OK || !reflect.DeepEqual(l, m) {
				t.Fatalf("%v, %v: Mixed by %d is %v, %v", a, b, table, m, e)
			}
			words(letters, 5, func(w []int) bool {
				bit := 0
				if marked(a, w) {
					bit += 2
				}
				if marked(b, w) {
					bit++
				}
				if marked(m, w) != (table>>bit&1 == 1) {
					t.Errorf("%v, %v: Mixed by %d is %v: wrong at %v", a, b, table, m, w)
				}
				return true
			})
		}
	}
}

func TestMixedByHand(t *testing.T) {
	twos, threes := ring(1, 2), ring(1, 3)
	for _, x := range []struct {
		table int
		mark  []int
	}{
		{0, []int{0}},
		{8, []int{1, 0, 0, 0, 0, 0}},
		{14, []int{1, 0, 1, 1, 1, 0}},
		{6, []int{0, 0, 1, 1, 1, 0}},
		{12, []int{1, 0}},
		{10, []int{1, 0, 0}},
		{5, []int{0, 1, 1}},
		{15, []int{1}},
	} {
		m, e := det.Mixed(twos, threes, x.table)
		if !slices.Equal(m.Mark, x.mark) || e != api.OK {
			t.Errorf("by %d: %v, %v", x.table, m, e)
		}
	}
}

// C5: what is wrong with two, in its order.
func TestMixedRefuses(t *testing.T) {
	one := lines([]int{1}, []int{0})
	for _, x := range []struct {
		name  string
		a, b  api.Det
		table int
		want  api.Errno
	}{
		{"other letters", one, ring(2, 1), 8, api.ErrShape},
		{"other letters ahead of the table", ring(3, 2), ring(2, 2), 16, api.ErrShape},
		{"other letters ahead of the size", ring(3, 60), ring(2, 60), 8, api.ErrShape},
		{"a table too large", one, one, 16, api.ErrRange},
		{"a table below 0", one, one, -1, api.ErrRange},
		{"the table ahead of the size", ring(1, 3000), ring(1, 2), 16, api.ErrRange},
		{"as many as may be", ring(1, 60), ring(1, 50), 8, api.OK},
		{"as many as may be, by one", ring(1, 3000), one, 8, api.OK},
		{"one more", ring(1, 3000), ring(1, 2), 8, api.ErrFull},
		{"just beyond", ring(1, 59), ring(1, 51), 15, api.ErrFull},
		{"the largest", ring(1, 3000), ring(1, 3000), 0, api.ErrFull},
	} {
		m, e := det.Mixed(x.a, x.b, x.table)
		if e != x.want || e != api.OK && !reflect.ValueOf(m).IsZero() {
			t.Errorf("%s: %v, not %v", x.name, e, x.want)
		}
	}
	a, b := ring(1, 60), ring(1, 50)
	if m, _ := det.Mixed(a, b, 8); !reflect.DeepEqual(m, ring(1, 300)) {
		t.Error(len(m.Next))
	}
}

// C5: a product that may be made of states that are not all come to is refused by what was given.
func TestMixedCountsWhatIsGiven(t *testing.T) {
	lazy := ring(1, 2000)
	for s := range lazy.Next {
		lazy.Next[s][0] = s
	}
	if _, e := det.Mixed(lazy, lazy, 8); e != api.ErrFull {
		t.Error(e)
	}
}

// C5: the first word, held against all words.
func TestDiffer(t *testing.T) {
	x, alike := dice(5), 0
	for i := range 1500 {
		letters := 1 + i%3
		a, b := x.det(letters, 1+x.roll(3)), x.det(letters, 1+x.roll(3))
		var first []int
		differ := false
		words(letters, 5, func(w []int) bool {
			if marked(a, w) != marked(b, w) {
				first, differ = w, true
			}
			return !differ
		})
		w, is, e := det.Differ(a, b)
		if !slices.Equal(w, first) || is != differ || e != api.OK {
			t.Fatalf("%v, %v: %v, %v, %v, not %v", a, b, w, is, e, first)
		}
		if !is {
			alike++
		}
	}
	if alike == 0 {
		t.Error("none are alike")
	}
}

func TestDifferByHand(t *testing.T) {
	w, is, e := det.Differ(ring(2, 3), ring(2, 5))
	if !slices.Equal(w, []int{0, 0, 0}) || !is || e != api.OK {
		t.Error(w, is, e)
	}
	endsWith1 := lines([]int{0, 1}, []int{0, 1}, []int{0, 1})
	w, is, e = det.Differ(endsWith1, lines([]int{0}, []int{0, 0}))
	if !slices.Equal(w, []int{1}) || !is || e != api.OK {
		t.Error(w, is, e)
	}
	w, is, e = det.Differ(ring(2, 1), ring(3, 1))
	if len(w) != 0 || is || e != api.ErrShape {
		t.Error(w, is, e)
	}
}

// C5: the largest have no bound together, and pairs that are many.
func TestDifferOfLargest(t *testing.T) {
	a, b := ring(4, 3000), ring(4, 2999)
	w, is, e := det.Differ(a, b)
	if !slices.Equal(w, make([]int, 2999)) || !is || e != api.OK {
		t.Error(len(w), is, e)
	}
	for s := range a.Mark {
		a.Mark[s] = 1
	}
	for s := range b.Mark {
		b.Mark[s] = 1
	}
	if w, is, e := det.Differ(a, b); len(w) != 0 || is || e != api.OK {
		t.Error(len(w), is, e)
	}
}

// C7: held against all words, and against numbers of any size.
func TestCount(t *testing.T) {
	x := dice(6)
	for i := range 200 {
		d := x.det(1+i%4, 1+x.roll(6))
		var many [5]int64
		words(d.Letters, 4, func(w []int) bool {
			if marked(d, w) {
				many[len(w)]++
			}
			return true
		})
		for n, m := range many {
			if s, e := det.Count(d, n); s != big.NewInt(m).String() || e != api.OK {
				t.Fatalf("%v: Count of %d is %q, %v, not %d", d, n, s, e, m)
			}
		}
		for n := i % 7; n <= 60; n += 9 {
			if s, e := det.Count(d, n); s != counted(d, n) || e != api.OK {
				t.Fatalf("%v: Count of %d is %q, %v", d, n, s, e)
			}
		}
	}
}

// counted goes from the end of the words: how many words of n letters lead from each state to one that accepts.
func counted(d api.Det, n int) string {
	many := make([]*big.Int, len(d.Next))
	for s, m := range d.Mark {
		many[s] = big.NewInt(int64(m))
	}
	for range n {
		longer := make([]*big.Int, len(d.Next))
		for s, row := range d.Next {
			longer[s] = new(big.Int)
			for _, x := range row {
				longer[s].Add(longer[s], many[x])
			}
		}
		many = longer
	}
	return many[d.Start].String()
}

func TestCountByHand(t *testing.T) {
	all, none := ring(4, 1), lines([]int{0}, []int{0, 0})
	tens := lines([]int{1, 0, 0, 0, 0}, []int{1, 2, 3, 4}, []int{0, 0, 0, 0}, []int{0, 0, 0, 0}, []int{0, 0, 4, 4}, []int{4, 4, 4, 4})
	for _, x := range []struct {
		name string
		d    api.Det
		n    int
		want string
		e    api.Errno
	}{
		{"all", all, 60, "1329227995784915872903807060280344576", api.OK},
		{"the empty one", all, 0, "1", api.OK},
		{"not the empty one", none, 0, "0", api.OK},
		{"none", none, 60, "0", api.OK},
		{"half", ring(2, 2), 60, "1152921504606846976", api.OK},
		{"the other half", ring(2, 2), 59, "0", api.OK},
		{"19 digits", all, 30, "1152921504606846976", api.OK},
		{"a 0 behind the first digit of 19", ring(3, 1), 39, "4052555153018976267", api.OK},
		{"zeros in the middle", all, 49, "316912650057057350374175801344", api.OK},
		{"zeros alone behind the first digit of 19", tens, 36, "1000000000000000000", api.OK},
		{"zeros alone, more of them", tens, 60, "1000000000000000000000000000000", api.OK},
		{"one letter", ring(1, 3000), 60, "0", api.OK},
		{"too few", all, -1, "", api.ErrRange},
		{"too many", all, 61, "", api.ErrRange},
	} {
		if s, e := det.Count(x.d, x.n); s != x.want || e != x.e {
			t.Errorf("%s: %q, %v, not %q", x.name, s, e, x.want)
		}
	}
}

// C8: each state of Least is come to, any two are told apart.
func TestLeastIsApart(t *testing.T) {
	x := dice(7)
	for i := range 100 {
		l, e := det.Least(x.det(1+i%4, 1+x.roll(30)))
		if e != api.OK || fewest(l) != len(l.Next) {
			t.Fatal(l, e)
		}
		for p := range l.Next {
			for q := range p {
				w, told, e := det.Apart(l, p, q)
				if !told || e != api.OK || l.Mark[behind(l, p, w)] == l.Mark[behind(l, q, w)] {
					t.Fatalf("%v: %d and %d: %v, %v, %v", l, p, q, w, told, e)
				}
			}
		}
	}
}

// P3: what is handed in is left as it is, and nothing that comes out shares its memory.
func TestMemory(t *testing.T) {
	roomy := func(row ...int) []int { return append(row, 99, 99)[:len(row)] }
	d := api.Det{Letters: 2, Next: [][]int{roomy(1, 0), roomy(1, 2), roomy(0, 2), nil, nil}[:3], Mark: roomy(0, 1, 0)}
	before := deep(d)
	w := roomy(0, 1)
	check := func(call string) {
		t.Helper()
		if !reflect.DeepEqual(d, before) || !slices.Equal(w[:3], []int{0, 1, 99}) || !slices.Equal(d.Mark[:4], []int{0, 1, 0, 99}) || d.Next[:4][3] != nil {
			t.Fatal(call, d, w[:3])
		}
		for _, row := range d.Next {
			if row[:3][2] != 99 {
				t.Fatal(call, row[:3])
			}
		}
	}
	det.Check(d)
	det.Accepts(d, w)
	det.Apart(d, 0, 2)
	det.Differ(d, d)
	det.Count(d, 5)
	check("looking")
	least, _ := det.Least(d)
	again, _ := det.Least(least)
	mixed, _ := det.Mixed(d, least, 8)
	check("making")
	for _, out := range []api.Det{again, mixed} {
		for s := range out.Next {
			out.Next[s] = append(out.Next[s], -7)
			for l := range out.Next[s] {
				out.Next[s][l] = -s
			}
			out.Mark[s] = 5
		}
		for s := range out.Next {
			if !slices.Equal(out.Next[s], []int{-s, -s, -s}) {
				t.Error("rows share memory:", out)
			}
		}
	}
	check("writing")
	if l, _ := det.Least(d); !reflect.DeepEqual(l, least) {
		t.Error(l, least)
	}
}

// Of: states of anything, numbered as they are come to.
func TestOf(t *testing.T) {
	next := func(s string, l int) string {
		s += "xy"[l : l+1]
		return s[max(0, len(s)-2):]
	}
	d := det.Of(2, "", next, func(s string) bool { return s == "xy" })
	want := lines([]int{0, 0, 0, 0, 1, 0, 0}, []int{1, 2}, []int{3, 4}, []int{5, 6}, []int{3, 4}, []int{5, 6}, []int{3, 4}, []int{5, 6})
	if !reflect.DeepEqual(d, want) {
		t.Error(d)
	}
}

// Fewest, Blend: as Least and Mixed, beyond what may come from outside.
func TestMarked(t *testing.T) {
	d := det.Marked(1, 5, func(s, l int) int { return (s + 3) % 7 }, func(s int) int { return 10 * s })
	if want := []int{50, 10, 40, 0, 30, 60, 20}; !slices.Equal(d.Mark, want) || d.Start != 0 || d.Next[6][0] != 0 {
		t.Error(d)
	}
}

func TestFits(t *testing.T) {
	d := ring(2, 5)
	d.Mark[3] = 7
	for _, x := range []struct {
		states, mark int
		want         api.Errno
	}{{5, 7, api.OK}, {9, 9, api.OK}, {4, 7, api.ErrSize}, {5, 6, api.ErrRange}} {
		if e := det.Fits(d, x.states, x.mark); e != x.want {
			t.Error(x, e)
		}
	}
}

func TestBeyondLimits(t *testing.T) {
	if d := det.Fewest(ring(16, 7)); !reflect.DeepEqual(d, ring(16, 7)) {
		t.Error(d)
	}
	twice := ring(9, 8000)
	twice.Mark[4000] = 1
	if d := det.Fewest(twice); !reflect.DeepEqual(d, ring(9, 4000)) {
		t.Error(len(d.Next))
	}
	if d := det.Blend(ring(5, 71), ring(5, 61), 8); !reflect.DeepEqual(d, ring(5, 71*61)) {
		t.Error(len(d.Next))
	}
	x := dice(8)
	for i := range 100 {
		a, b := x.det(3, 1+x.roll(6)), x.det(3, 1+x.roll(6))
		want, e := det.Mixed(a, b, i%16)
		if d := det.Blend(a, b, i%16); !reflect.DeepEqual(d, want) || e != api.OK {
			t.Fatalf("%v, %v by %d: %v, not %v, %v", a, b, i%16, d, want, e)
		}
	}
}

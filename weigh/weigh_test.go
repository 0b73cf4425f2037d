package weigh_test

import (
	"fmt"
	"math"
	"math/big"
	"slices"
	"strings"
	"testing"

	"evermore/api"
	"evermore/weigh"
)

// length is the example: the word of n letters weighs n.
func length() api.Weigh { return read("1 0", "0 1", "1 1/0 1") }

// binary reads words of 0 and 1 as numbers.
func binary() api.Weigh { return read("1 0", "0 1", "1 0/0 2", "1 1/0 2") }

// sized has so many states, each of which leads to the next one: words weigh 1 if they come round, else 0.
func sized(n int) api.Weigh {
	a := api.Weigh{Letters: 1, First: make([]int, n), Last: make([]int, n), Step: [][][]int{nil}}
	for s := range n {
		next := make([]int, n)
		next[(s+1)%n] = 1
		a.Step[0] = append(a.Step[0], next)
	}
	if n > 0 {
		a.First[0], a.Last[0] = 1, 1
	}
	return a
}

// full has the same number everywhere.
func full(letters, n, x int) api.Weigh {
	a := api.Weigh{Letters: letters, First: slices.Repeat([]int{x}, n), Last: slices.Repeat([]int{x}, n)}
	for range letters {
		var rows [][]int
		for range n {
			rows = append(rows, slices.Repeat([]int{x}, n))
		}
		a.Step = append(a.Step, rows)
	}
	return a
}

// ladder counts the ways up and down again on so many steps; on the highest one, one may stay where loop is 1. By one
// letter; or 0 leads up, 1 down, 2 stays.
func ladder(letters, n, loop int) api.Weigh {
	a := full(letters, n, 0)
	a.First[0], a.Last[0] = 1, 1
	for s := range n - 1 {
		a.Step[0][s][s+1] = 1
		a.Step[min(1, letters-1)][s+1][s] = 1
	}
	a.Step[min(2, letters-1)][n-1][n-1] = loop
	return a
}

// refused sees that no call does anything with a but tell what is wrong, whatever else is.
func refused(t *testing.T, name string, a api.Weigh, want api.Errno) {
	t.Helper()
	if e := weigh.Check(a); e != want {
		t.Errorf("%s: Check: %v, not %v", name, e, want)
	}
	for _, w := range [][]int{nil, {0}, {9}, make([]int, 61)} {
		if s, e := weigh.Value(a, w); s != "" || e != want {
			t.Errorf("%s: Value: %v, %v, not %v", name, s, e, want)
		}
	}
	if n, e := weigh.Rank(a); n != 0 || e != want {
		t.Errorf("%s: Rank: %v, %v, not %v", name, n, e, want)
	}
	for _, b := range []api.Weigh{length(), binary(), full(4, 8, 9), {}, {Letters: 1}} {
		refusedBoth(t, name+", a", a, b, want)
	}
	for _, b := range []api.Weigh{length(), binary(), full(4, 8, 9)} {
		refusedBoth(t, name+", b", b, a, want)
	}
}

func refusedBoth(t *testing.T, name string, a, b api.Weigh, want api.Errno) {
	t.Helper()
	if w, differ, e := weigh.Differ(a, b); len(w) > 0 || differ || e != want {
		t.Errorf("%s: Differ: %v, %v, %v, not %v", name, w, differ, e, want)
	}
	if c, e := weigh.Sum(a, b); !empty(c) || e != want {
		t.Errorf("%s: Sum: %v, %v, not %v", name, c, e, want)
	}
	if c, e := weigh.Product(a, b); !empty(c) || e != want {
		t.Errorf("%s: Product: %v, %v, not %v", name, c, e, want)
	}
}

// A change makes an automaton wrong, in the way that an error tells.
type change struct {
	name string
	do   func(a *api.Weigh)
	want api.Errno
}

func changes() []change {
	return []change{
		{"no letters", func(a *api.Weigh) { a.Letters = 0 }, api.ErrRange},
		{"letters below", func(a *api.Weigh) { a.Letters = -1 }, api.ErrRange},
		{"letters far below", func(a *api.Weigh) { a.Letters = math.MinInt }, api.ErrRange},
		{"letters beyond", func(a *api.Weigh) { a.Letters = 5 }, api.ErrRange},
		{"letters far beyond", func(a *api.Weigh) { a.Letters = math.MaxInt }, api.ErrRange},
		{"five letters, as many tables", func(a *api.Weigh) { *a = full(5, 2, 1) }, api.ErrRange},

		{"no First", func(a *api.Weigh) { a.First = nil }, api.ErrSize},
		{"nothing at all", func(a *api.Weigh) { *a = full(1, 0, 0) }, api.ErrSize},
		{"nine states", func(a *api.Weigh) { *a = sized(9) }, api.ErrSize},
		{"First too long", func(a *api.Weigh) { a.First = make([]int, 9) }, api.ErrSize},
		{"First very long", func(a *api.Weigh) { a.First = make([]int, 1<<20) }, api.ErrSize},

		{"less First", func(a *api.Weigh) { a.First = a.First[:1] }, api.ErrShape},
		{"more First", func(a *api.Weigh) { a.First = make([]int, 8) }, api.ErrShape},
		{"less Last", func(a *api.Weigh) { a.Last = a.Last[:1] }, api.ErrShape},
		{"no Last", func(a *api.Weigh) { a.Last = nil }, api.ErrShape},
		{"more Last", func(a *api.Weigh) { a.Last = append(a.Last, 0) }, api.ErrShape},
		{"a table less", func(a *api.Weigh) { a.Step = a.Step[:1] }, api.ErrShape},
		{"a table more", func(a *api.Weigh) { a.Step = append(a.Step, a.Step[0]) }, api.ErrShape},
		{"no tables", func(a *api.Weigh) { a.Step = nil }, api.ErrShape},
		{"very many tables", func(a *api.Weigh) { a.Step = make([][][]int, 1<<20) }, api.ErrShape},
		{"Letters less", func(a *api.Weigh) { a.Letters = 1 }, api.ErrShape},
		{"Letters more", func(a *api.Weigh) { a.Letters = 4 }, api.ErrShape},
		{"a row less", func(a *api.Weigh) { a.Step[0] = a.Step[0][:1] }, api.ErrShape},
		{"a row less of the last table", func(a *api.Weigh) { a.Step[1] = a.Step[1][:1] }, api.ErrShape},
		{"a row more", func(a *api.Weigh) { a.Step[1] = append(a.Step[1], a.Step[1][0]) }, api.ErrShape},
		{"no rows", func(a *api.Weigh) { a.Step[0] = nil }, api.ErrShape},
		{"a short row", func(a *api.Weigh) { a.Step[0][0] = a.Step[0][0][:1] }, api.ErrShape},
		{"a short row at the end", func(a *api.Weigh) { a.Step[1][1] = a.Step[1][1][:1] }, api.ErrShape},
		{"a long row", func(a *api.Weigh) { a.Step[0][1] = append(a.Step[0][1], 0) }, api.ErrShape},
		{"no row", func(a *api.Weigh) { a.Step[1][0] = nil }, api.ErrShape},

		{"10 in First", func(a *api.Weigh) { a.First[0] = 10 }, api.ErrRange},
		{"-10 in First", func(a *api.Weigh) { a.First[1] = -10 }, api.ErrRange},
		{"First far beyond", func(a *api.Weigh) { a.First[1] = math.MaxInt }, api.ErrRange},
		{"First far below", func(a *api.Weigh) { a.First[0] = math.MinInt }, api.ErrRange},
		{"10 in Last", func(a *api.Weigh) { a.Last[1] = 10 }, api.ErrRange},
		{"-10 in Last", func(a *api.Weigh) { a.Last[0] = -10 }, api.ErrRange},
		{"Last far below", func(a *api.Weigh) { a.Last[1] = math.MinInt }, api.ErrRange},
		{"10 in a table", func(a *api.Weigh) { a.Step[0][0][0] = 10 }, api.ErrRange},
		{"-10 in a table", func(a *api.Weigh) { a.Step[1][1][1] = -10 }, api.ErrRange},
		{"a table far beyond", func(a *api.Weigh) { a.Step[1][0][1] = math.MaxInt }, api.ErrRange},
		{"a table far below", func(a *api.Weigh) { a.Step[0][1][0] = math.MinInt }, api.ErrRange},
	}
}

// R1: what Check says, and the others with it.
func TestRefuses(t *testing.T) {
	for _, c := range changes() {
		a := binary()
		c.do(&a)
		refused(t, c.name, a, c.want)
	}
}

// R1: where several things are wrong, the first one is told.
func TestFirstIsTold(t *testing.T) {
	for _, y := range []struct {
		name string
		do   []func(a *api.Weigh)
		want api.Errno
	}{
		{"letters ahead of First", []func(*api.Weigh){noLetters, noFirst}, api.ErrRange},
		{"letters ahead of Last", []func(*api.Weigh){noLetters, lessLast}, api.ErrRange},
		{"First ahead of Last", []func(*api.Weigh){noFirst, lessLast}, api.ErrSize},
		{"First ahead of a row", []func(*api.Weigh){noFirst, lessRow, heavy}, api.ErrSize},
		{"size ahead of what it has", []func(*api.Weigh){longFirst}, api.ErrSize},
		{"Last ahead of a number", []func(*api.Weigh){lessLast, heavy}, api.ErrShape},
		{"Step ahead of a number", []func(*api.Weigh){lessStep, heavy}, api.ErrShape},
		{"a row ahead of a number", []func(*api.Weigh){heavy, lessRow}, api.ErrShape},
	} {
		a := binary()
		for _, do := range y.do {
			do(&a)
		}
		refused(t, y.name, a, y.want)
	}
}

func noLetters(a *api.Weigh) { a.Letters = 0 }
func noFirst(a *api.Weigh)   { a.First = nil }
func longFirst(a *api.Weigh) { a.First = slices.Repeat([]int{77}, 9) }
func lessLast(a *api.Weigh)  { a.Last = a.Last[:1] }
func lessStep(a *api.Weigh)  { a.Step = a.Step[:1] }
func lessRow(a *api.Weigh)   { a.Step[1][1] = a.Step[1][1][:1] }
func heavy(a *api.Weigh) {
	if len(a.First) > 0 {
		a.First[0] = 10
	}
	a.Step[0][0][0] = 10
}

// R1: a's error ahead of b's; both ahead of what does not fit.
func TestBothRefused(t *testing.T) {
	for _, c := range changes() {
		for _, d := range changes() {
			a, b := binary(), binary()
			c.do(&a)
			d.do(&b)
			refusedBoth(t, c.name+", "+d.name, a, b, c.want)
		}
	}
}

// R1: all that may be, at its limits.
func TestMayBe(t *testing.T) {
	for _, a := range []api.Weigh{
		length(), binary(), sized(1), sized(8), full(1, 1, 0), full(1, 8, 9), full(4, 1, -9), full(4, 8, 9), full(4, 8, -9),
	} {
		if e := weigh.Check(a); e != api.OK {
			t.Error(a, e)
		}
	}
}

// holdValue holds Value against a judge.
func holdValue(t *testing.T, a api.Weigh, w []int, judge func(api.Weigh, []int) *big.Int) {
	t.Helper()
	if got, e := weigh.Value(a, w); e != api.OK || got != judge(a, w).String() {
		t.Fatal("Value:", a, w, got, e, "not", judge(a, w))
	}
}

// R2, by hand.
func TestValue(t *testing.T) {
	for _, x := range []struct {
		a    api.Weigh
		w    []int
		want string
	}{
		{length(), nil, "0"},
		{length(), make([]int, 9), "9"},
		{length(), make([]int, 60), "60"},
		{binary(), nil, "0"},
		{binary(), []int{1, 0, 1}, "5"},
		{binary(), []int{1, 0, 0}, "4"},
		{binary(), []int{0, 0, 1}, "1"},
		{binary(), slices.Repeat([]int{1}, 60), "1152921504606846975"},
		{read("1", "1", "2"), make([]int, 60), "1152921504606846976"},
		{read("-1", "1", "-1"), nil, "-1"},
		{read("-1", "1", "-1"), []int{0}, "1"},
		{read("-1", "1", "-1"), []int{0, 0}, "-1"},
		{read("-3", "7", "9"), []int{0}, "-189"},
		{read("7", "0", "9"), []int{0}, "0"},
		{read("1 -1", "1 1", "5 0/0 5"), make([]int, 60), "0"},
		{read("1 2", "3 4", "1 2/3 4"), []int{0}, "61"},
		{read("1 2", "3 4", "1 2/3 4", "0 1/-1 0"), []int{0, 1}, "-2"},
		{read("1 2", "3 4", "1 2/3 4", "0 1/-1 0"), []int{1, 0}, "3"},
	} {
		if got, e := weigh.Value(x.a, x.w); e != api.OK || got != x.want {
			t.Error(x.a, x.w, got, e, x.want)
		}
	}
}

// R2: what May says of the word.
func TestValueRefuses(t *testing.T) {
	for _, x := range []struct {
		name string
		w    []int
		want api.Errno
	}{
		{"61 letters", make([]int, 61), api.ErrSize},
		{"61 wrong ones", slices.Repeat([]int{2}, 61), api.ErrSize},
		{"a letter of four", []int{0, 1, 2}, api.ErrRange},
		{"a letter below", []int{-1}, api.ErrRange},
		{"a letter far beyond", []int{0, math.MaxInt}, api.ErrRange},
		{"a letter far below", []int{math.MinInt}, api.ErrRange},
	} {
		if s, e := weigh.Value(binary(), x.w); s != "" || e != x.want {
			t.Error(x.name, s, e)
		}
	}
}

// decimal reads words as numbers by tens: its letters are the digits 0, 1, 9 and one that is worth -1.
func decimal() api.Weigh {
	digit := func(d string) string { return fmt.Sprintf("1 %s %s/0 5 5/0 5 5", d, d) }
	return read("1 0 0", "0 0 1", digit("0"), digit("1"), digit("9"), digit("-1"))
}

// R2: digits of all lengths, with rows of 0 and of 9 among them.
func TestValueDigits(t *testing.T) {
	letters := func(text string) []int {
		var w []int
		for _, c := range text {
			w = append(w, strings.IndexRune("019-", c))
		}
		return w
	}
	for n := range 60 {
		zeros, nines := strings.Repeat("0", n), strings.Repeat("9", n)
		for text, want := range map[string]string{
			"1" + zeros:       "1" + zeros,
			"9" + zeros:       "9" + zeros,
			"-" + zeros:       "-1" + zeros,
			"9" + nines:       "9" + nines,
			zeros + "1":       "1",
			zeros + "-":       "-1",
			zeros + "0":       "0",
			nines + "1":       nines + "1",
			"1" + nines:       "1" + nines,
			zeros[n/2:] + "9": "9",
		} {
			if got, e := weigh.Value(decimal(), letters(text)); e != api.OK || got != want {
				t.Error(text, got, e, want)
			}
		}
	}
	for text, want := range map[string]string{
		"10000000000-": "99999999999", "-10000000001": "-89999999999", "-0000000009": "-9999999991",
		"100000000000000000-": "999999999999999999", "-00000000000000000000000001": "-99999999999999999999999999",
	} {
		if got, e := weigh.Value(decimal(), letters(text)); e != api.OK || got != want {
			t.Error(text, got, e, want)
		}
	}
}

// R2: the greatest there is, and the least.
func TestValueAtItsLimits(t *testing.T) {
	power := func(x, n int64) *big.Int { return new(big.Int).Exp(big.NewInt(x), big.NewInt(n), nil) }
	most := new(big.Int).Mul(power(9, 62), power(8, 61)).String()
	w := slices.Repeat([]int{3}, 60)
	up, below, turns := full(4, 8, 9), full(4, 8, 9), full(4, 8, -9)
	below.First = slices.Repeat([]int{-9}, 8)
	for a, want := range map[*api.Weigh]string{&up: most, &below: "-" + most, &turns: most} {
		if got, e := weigh.Value(*a, w); e != api.OK || got != want {
			t.Error(*a, got, e, want)
		}
	}
	if got, e := weigh.Value(turns, w[1:]); e != api.OK || got[0] != '-' || got != weighs(turns, w[1:]).String() {
		t.Error(got, e)
	}
}

// R2, by its own words: all ways are gone.
func TestValueByWays(t *testing.T) {
	x := dice(1)
	for range 400 {
		a := x.weigh(1+x.roll(4), 1+x.roll(4), 9, 1+x.roll(3))
		holdValue(t, a, x.word(a.Letters, 4), sum)
	}
}

// R2, at words of all lengths.
func TestValueAtAnything(t *testing.T) {
	x := dice(2)
	for range 1500 {
		a := x.weigh(1+x.roll(4), 1+x.roll(8), 1+x.roll(9), 1+x.roll(4))
		holdValue(t, a, x.word(a.Letters, 60), weighs)
	}
}

// R3, by hand.
func TestDiffer(t *testing.T) {
	up := append(slices.Repeat([]int{0}, 7), 2)
	for _, x := range []struct {
		name string
		a, b api.Weigh
		w    []int
		told bool
	}{
		{"itself", length(), length(), nil, false},
		{"the double", read("2 0", "0 1", "1 1/0 1"), length(), []int{0}, true},
		{"double at both ends", read("2 0", "0 3", "1 1/0 1"), read("3 0", "0 2", "1 1/0 1"), nil, false},
		{"no word", read("1", "1", "1"), read("2", "1", "1"), nil, true},
		{"one is below 0", read("1", "1", "1"), read("-1", "1", "1"), nil, true},
		{"0 by other means", read("0", "1", "5"), read("1 1", "0 0", "1 2/3 4"), nil, false},
		{"0 by what is taken away", read("0", "0", "0"), read("3 -3", "1 1", "1 2/2 1"), nil, false},
		{"the first of two letters", read("1", "1", "1", "2"), read("1", "1", "2", "1"), []int{0}, true},
		{"the second letter", read("1", "1", "1", "2"), read("1", "1", "1", "1"), []int{1}, true},
		{"the fourth letter", read("1", "1", "1", "2", "3", "4"), read("1", "1", "1", "2", "3", "5"), []int{3}, true},
		{"the shorter one", read("1 0", "1 0", "0 1/2 0", "3 0/0 1"), read("1 0", "1 0", "0 1/1 0", "2 0/0 1"), []int{1}, true},
		{"a way round", sized(5), sized(6), make([]int, 5), true},
		{"the order of letters", binary(), read("1 0", "0 1", "1 0/0 1", "1 1/0 2"), []int{1, 0}, true},
		{"ahead of what weighs nothing", binary(), read("1 0", "0 1", "1 0/0 2", "2 1/0 2"), []int{1, 1}, true},
		{"15 letters", ladder(1, 8, 1), ladder(1, 8, 0), make([]int, 15), true},
		{"14 letters", ladder(1, 8, 0), ladder(1, 7, 0), make([]int, 14), true},
		{"up, to and fro, and down", ladder(3, 8, 0), ladder(3, 8, 1), append(up, 1, 1, 1, 1, 1, 1, 1), true},
		{"and with a letter more", ladder(4, 8, 0), ladder(4, 8, -9), append(up, 1, 1, 1, 1, 1, 1, 1), true},
	} {
		for _, y := range [][2]api.Weigh{{x.a, x.b}, {x.b, x.a}} {
			w, told, e := weigh.Differ(y[0], y[1])
			if e != api.OK || told != x.told || !slices.Equal(w, x.w) {
				t.Error(x.name, w, told, e)
			}
		}
	}
}

// R3: ladders of all lengths, against all words that tell.
func TestDifferOfLadders(t *testing.T) {
	for n := 1; n <= 8; n++ {
		for m := n; m <= 8; m++ {
			for loops := range 4 {
				a, b := ladder(1, n, loops&1), ladder(1, m, loops>>1)
				holdDiffer(t, a, b, enough(a, b))
			}
		}
	}
}

// R3: they have not as many letters.
func TestNotAsManyLetters(t *testing.T) {
	for i := range 16 {
		a, b := full(1+i%4, 1, 1), full(1+i/4, 2, 1)
		want := api.OK
		if a.Letters != b.Letters {
			want = api.ErrShape
			refusedBoth(t, "letters", a, b, want)
		}
		if _, _, e := weigh.Differ(a, b); e != want {
			t.Error(a, b, e)
		}
		if _, e := weigh.Sum(a, b); e != want {
			t.Error(a, b, e)
		}
		if _, e := weigh.Product(a, b); e != want {
			t.Error(a, b, e)
		}
	}
	// Ahead of all that is too much of both.
	refusedBoth(t, "letters and more", full(1, 8, 9), full(2, 8, 9), api.ErrShape)
}

// R3: all pairs of one letter and at most two states, by 0 and 1.
func TestDifferOfAllSmall(t *testing.T) {
	var all []api.Weigh
	for i := range 256 {
		bit := func(k int) int { return i >> k & 1 }
		all = append(all, api.Weigh{Letters: 1, First: []int{bit(0), bit(1)}, Last: []int{bit(2), bit(3)},
			Step: [][][]int{{{bit(4), bit(5)}, {bit(6), bit(7)}}}})
	}
	var told [2]int
	for i, a := range all {
		for j := i % 3; j < len(all); j += 3 {
			_, is := holdDiffer(t, a, all[j], 3)
			told[bit(is)]++
		}
	}
	if min(told[0], told[1]) < 1000 {
		t.Error("too much of one kind:", told)
	}
}

func bit(is bool) int {
	if is {
		return 1
	}
	return 0
}

// R3: of what is nearly alike, against all words that tell.
func TestDifferOfNearlyAlike(t *testing.T) {
	x := dice(3)
	var told [2]int
	far := 0
	most := []int{16, 8, 6, 5}
	for i := range 900 {
		letters := 1 + i%4
		a := x.weigh(letters, 1+x.roll(min(4, most[letters-1]/2)), 1+x.roll(9), 1+x.roll(4))
		b := x.disguised(a)
		if i%3 > 0 {
			b = x.changed(b)
		}
		if len(a.First)+len(b.First) > most[letters-1] {
			continue
		}
		w, is := holdDiffer(t, a, b, enough(a, b))
		told[bit(is)]++
		far = max(far, len(w))
	}
	if min(told[0], told[1]) < 150 || far < 3 {
		t.Error("too much of one kind:", told, far)
	}
}

// R3: of one letter and all sizes, whatever the numbers.
func TestDifferOfOneLetter(t *testing.T) {
	x := dice(4)
	for range 150 {
		a := x.weigh(1, 1+x.roll(8), 9, 1+x.roll(3))
		b := x.disguised(a)
		holdDiffer(t, a, b, 15)
		holdDiffer(t, a, x.changed(b), 15)
		holdDiffer(t, a, x.weigh(1, 1+x.roll(8), 9, 1+x.roll(3)), 15)
	}
}

// R3: of four letters and eight states. What is alike is not told apart; what is told apart is, by the first word as
// far as one can see.
func TestDifferOfTheGreatest(t *testing.T) {
	x := dice(5)
	for range 30 {
		a := x.weigh(4, 8, 9, 1+x.roll(3))
		b := x.disguised(a)
		if w, told, e := weigh.Differ(a, b); len(w) > 0 || told || e != api.OK {
			t.Fatal(a, b, w, told, e)
		}
		c := x.changed(b)
		w, told, e := weigh.Differ(a, c)
		early, is := first(a, c, 3)
		if e != api.OK || is && !slices.Equal(w, early) || told && weighs(a, w).Cmp(weighs(c, w)) == 0 {
			t.Fatal(a, c, w, told, e, early)
		}
	}
}

// hills go up three times by tables of two, to and fro once, and down three times: eight states.
func hills(first, last []int, up, down [3][2][2]int, on [2][2]int) api.Weigh {
	a := full(1, 8, 0)
	copy(a.First, first)
	copy(a.Last, last)
	put := func(from, to int, table [2][2]int) {
		for i, r := range table {
			copy(a.Step[0][2*from+i][2*to:], r[:])
		}
	}
	for i := range 3 {
		put(i, i+1, up[i])
		put(i+1, i, down[i])
	}
	put(3, 3, on)
	return a
}

// R3: where what is told apart is a multiple of a prime.
func TestDifferByMultiples(t *testing.T) {
	for _, x := range []struct {
		prime       int64
		first, last []int
		up, down    [3][2][2]int
		on          [2][2]int
	}{
		{2147483647, []int{9, 7}, []int{8, 9}, [3][2][2]int{{{9, 8}, {8, 8}}, {{7, 7}, {8, 6}}, {{6, 8}, {8, 7}}},
			[3][2][2]int{{{6, 7}, {7, 6}}, {{9, 9}, {6, 8}}, {{9, 8}, {6, 7}}}, [2][2]int{{-7, 6}, {-1, 1}}},
		{2147483629, []int{9, 8}, []int{8, 7}, [3][2][2]int{{{9, 7}, {8, 8}}, {{7, 6}, {7, 7}}, {{7, 6}, {6, 6}}},
			[3][2][2]int{{{9, 6}, {7, 8}}, {{9, 8}, {9, 9}}, {{6, 9}, {8, 8}}}, [2][2]int{{2, 1}, {-9, -7}}},
		{1000000007, []int{7, 9}, []int{7, 8}, [3][2][2]int{{{9, 8}, {9, 7}}, {{8, 6}, {6, 8}}, {{9, 6}, {8, 8}}},
			[3][2][2]int{{{7, 6}, {9, 8}}, {{8, 6}, {7, 6}}, {{7, 6}, {6, 7}}}, [2][2]int{{2, -7}, {0, -6}}},
	} {
		a := hills(x.first, x.last, x.up, x.down, x.on)
		b := hills(x.first, x.last, x.up, x.down, [2][2]int{})
		w, told := holdDiffer(t, a, b, 15)
		apart := new(big.Int).Sub(weighs(a, w), weighs(b, w))
		if !told || len(w) != 7 || new(big.Int).Rem(apart, big.NewInt(x.prime)).Sign() != 0 {
			t.Error(x.prime, w, told, apart)
		}
	}
}

// R4, by hand.
func TestRank(t *testing.T) {
	for _, x := range []struct {
		name string
		a    api.Weigh
		want int
	}{
		{"the example", length(), 2},
		{"by two letters", binary(), 2},
		{"decimal", decimal(), 2},
		{"all 1", read("1", "1", "1"), 1},
		{"all below 0", read("-9", "9", "1"), 1},
		{"just the empty word", read("1", "1", "0"), 1},
		{"nothing first", read("0 0", "1 1", "1 1/1 1"), 0},
		{"nothing last", read("1 1", "0 0", "1 1/1 1"), 0},
		{"nothing but tables", read("1 0", "0 1", "1 0/0 1"), 0},
		{"taken away", read("1 -1", "1 1", "1 2/2 1"), 0},
		{"two alike", read("1 1", "1 1", "1 0/0 1"), 1},
		{"two that are unlike later", read("1 1", "1 1", "1 0/0 2"), 2},
		{"never come to", read("1 0", "1 1", "1 0/1 1"), 1},
		{"leads nowhere", read("1 0", "1 0", "1 1/0 1"), 1},
		{"all nines", full(4, 8, 9), 1},
		{"round", sized(8), 8},
		{"up and down", ladder(1, 8, 1), 8},
		{"up and down by letters", ladder(3, 8, 1), 8},
		{"halves", read("2 0", "0 2", "1 3/0 1"), 2},
	} {
		if n, e := weigh.Rank(x.a); e != api.OK || n != x.want {
			t.Error(x.name, n, e, x.want)
		}
	}
}

// R4, against the table.
func TestRankByTable(t *testing.T) {
	x := dice(6)
	var ranks [9]int
	for i := range 700 {
		letters := 1 + i%4
		n := 1 + x.roll([]int{8, 4, 3, 3}[letters-1])
		ranks[holdRank(t, x.weigh(letters, n, 1+x.roll(9), 1+x.roll(3)))]++
	}
	if slices.Min(ranks[:5]) < 20 || ranks[8] == 0 {
		t.Error("too few of one kind:", ranks)
	}
}

// R4: of states that are more than need be, by each one and by all letters.
func TestRankOfDisguised(t *testing.T) {
	x := dice(7)
	more := 0
	for i := range 300 {
		a := x.weigh(1+i%4, 1+x.roll(3), 1+x.roll(9), 1+x.roll(3))
		b := x.disguised(x.disguised(a))
		n, e := weigh.Rank(b)
		m, f := weigh.Rank(mirror(b))
		if want := holdRank(t, a); n != want || m != want || e != api.OK || f != api.OK {
			t.Fatal(a, b, n, m, e, f, want)
		}
		more = max(more, len(b.First)-n)
	}
	if more < 5 {
		t.Error("little is disguised:", more)
	}
}

// R4: of all sizes, no more than there are states; and the same from the other end on.
func TestRankOfTheGreatest(t *testing.T) {
	x := dice(8)
	var ranks [9]int
	for range 60 {
		a := x.weigh(2+x.roll(3), 8, 9, 1+x.roll(9))
		n, e := weigh.Rank(a)
		m, f := weigh.Rank(mirror(a))
		if e != api.OK || f != api.OK || n != m || n > 8 {
			t.Fatal(a, n, m, e, f)
		}
		ranks[n]++
	}
	if ranks[8] < 10 || ranks[0] < 3 {
		t.Error("too few of one kind:", ranks)
	}
}

// R4: where the determinant of the table is a multiple of a prime, by which the rank would be less.
func TestRankByMultiples(t *testing.T) {
	for _, x := range []struct {
		prime     int64
		first, on string
	}{
		{2147483647, "-1 4 0 7 -8 -2 -1 4", "-7 -8 7 -2 5 -2 7 -2"},
		{2147483629, "6 8 7 -7 -9 9 -4 5", "3 0 3 -4 8 -1 -6 0"},
		{1000000007, "-8 -3 -4 -7 -8 -7 -3 -4", "8 3 8 8 8 0 0 0"},
		{998244353, "7 4 9 -4 -9 -3 -9 -8", "-6 4 -2 5 9 -9 -3 9"},
	} {
		a := sized(8)
		a.First, a.Last = row(x.first), row("0 0 0 0 0 0 0 1")
		a.Step[0][7] = row(x.on)
		_, determinant := rank(table(a, 7))
		if holdRank(t, a) != 8 || new(big.Int).Rem(determinant.Num(), big.NewInt(x.prime)).Sign() != 0 {
			t.Error(x.prime, determinant)
		}
		// The same with a state that is no more than another one.
		b := copied(a)
		b.First[7] = 0
		holdRank(t, b)
	}
}

// holdSum sees that words weigh by Sum what they weigh by both together.
func holdSum(t *testing.T, a, b api.Weigh, all [][]int) {
	t.Helper()
	c, e := weigh.Sum(a, b)
	if e != api.OK || weigh.Check(c) != api.OK || c.Letters != a.Letters {
		t.Fatal("Sum:", a, b, c, e, weigh.Check(c))
	}
	for _, w := range all {
		if weighs(c, w).Cmp(new(big.Int).Add(weighs(a, w), weighs(b, w))) != 0 {
			t.Fatal("Sum:", a, b, c, w)
		}
	}
}

func holdProduct(t *testing.T, a, b api.Weigh, all [][]int) {
	t.Helper()
	c, e := weigh.Product(a, b)
	if e != api.OK || weigh.Check(c) != api.OK || c.Letters != a.Letters {
		t.Fatal("Product:", a, b, c, e, weigh.Check(c))
	}
	for _, w := range all {
		if weighs(c, w).Cmp(new(big.Int).Mul(weighs(a, w), weighs(b, w))) != 0 {
			t.Fatal("Product:", a, b, c, w)
		}
	}
}

// R5: the example, by itself.
func TestOfLength(t *testing.T) {
	s, e := weigh.Sum(length(), length())
	p, f := weigh.Product(length(), length())
	if e != api.OK || f != api.OK {
		t.Fatal(e, f)
	}
	for n := range 61 {
		v, e := weigh.Value(s, make([]int, n))
		w, f := weigh.Value(p, make([]int, n))
		if v != fmt.Sprint(2*n) || w != fmt.Sprint(n*n) || e != api.OK || f != api.OK {
			t.Error(n, v, w, e, f)
		}
	}
}

// R5: of all sizes that may be together; and what may not.
func TestSizes(t *testing.T) {
	x := dice(9)
	for n := 1; n <= 8; n++ {
		for m := 1; m <= 8; m++ {
			letters := 1 + x.roll(4)
			all := append(words(letters, 2), x.word(letters, 60))
			a, b := x.weigh(letters, n, 9, 1), x.weigh(letters, m, 9, 1)
			if n+m <= 8 {
				holdSum(t, a, b, all)
			} else if c, e := weigh.Sum(a, b); !empty(c) || e != api.ErrSize {
				t.Error("Sum:", n, m, c, e)
			}
			small, other := x.weigh(letters, n, 3, 1), x.weigh(letters, m, 3, 1)
			if n*m <= 8 {
				holdProduct(t, small, other, all)
				continue
			}
			if c, e := weigh.Product(small, other); !empty(c) || e != api.ErrSize {
				t.Error("Product:", n, m, c, e)
			}
			if c, e := weigh.Product(full(2, n, 9), full(2, m, 9)); !empty(c) || e != api.ErrSize {
				t.Error("Product:", n, m, c, e)
			}
		}
	}
}

// R5: whatever the numbers.
func TestSumAndProduct(t *testing.T) {
	x := dice(10)
	for range 300 {
		letters := 1 + x.roll(4)
		all := append(words(letters, 3), x.word(letters, 30))
		n := 1 + x.roll(7)
		holdSum(t, x.weigh(letters, n, 9, 1+x.roll(3)), x.weigh(letters, 1+x.roll(8-n), 9, 1+x.roll(3)), all)
		holdProduct(t, x.weigh(letters, n, 3, 1+x.roll(3)), x.weigh(letters, 1+x.roll(8/n), 3, 1+x.roll(3)), all)
	}
}

// R5: the greatest numbers that may be multiplied; and greater ones, wherever they stand.
func TestProductRange(t *testing.T) {
	for _, y := range []int{3, -3} {
		for _, z := range []int{3, -3} {
			holdProduct(t, full(4, 2, y), full(4, 4, z), words(4, 2))
		}
	}
	for _, y := range []int{4, -4, 9, -9} {
		for _, put := range []func(a *api.Weigh){
			func(a *api.Weigh) { a.First[0] = y },
			func(a *api.Weigh) { a.First[1] = y },
			func(a *api.Weigh) { a.Last[0] = y },
			func(a *api.Weigh) { a.Last[1] = y },
			func(a *api.Weigh) { a.Step[0][0][0] = y },
			func(a *api.Weigh) { a.Step[1][1][1] = y },
			func(a *api.Weigh) { a.Step[1][0][1] = y },
		} {
			a, b, zero := binary(), binary(), full(2, 1, 0)
			put(&a)
			for _, p := range [][2]api.Weigh{{a, b}, {b, a}, {a, a}, {a, zero}, {zero, a}} {
				if c, e := weigh.Product(p[0], p[1]); !empty(c) || e != api.ErrRange {
					t.Error(p, c, e)
				}
				holdSum(t, p[0], p[1], words(2, 2))
			}
		}
	}
}

// R3, R4, R5 together: what both are is no other by another order, and what is taken away leaves nothing.
func TestTogether(t *testing.T) {
	x := dice(11)
	for range 100 {
		letters := 1 + x.roll(4)
		a, b := x.weigh(letters, 1+x.roll(4), 3, 1+x.roll(3)), x.weigh(letters, 1+x.roll(2), 3, 1+x.roll(3))
		c, _ := weigh.Product(a, b)
		d, _ := weigh.Product(b, a)
		if w, told, e := weigh.Differ(c, d); told || e != api.OK {
			t.Fatal(a, b, w, told, e)
		}
		minus, _ := weigh.Product(a, full(letters, 1, 1))
		for i, y := range minus.First {
			minus.First[i] = -y
		}
		none, _ := weigh.Sum(a, minus)
		n, e := weigh.Rank(none)
		m, f := weigh.Rank(c)
		p, _ := weigh.Rank(a)
		q, _ := weigh.Rank(b)
		if n != 0 || m > p*q || e != api.OK || f != api.OK {
			t.Fatal(a, b, n, m, p, q, e, f)
		}
	}
}

// lists are all lists of numbers that an automaton has.
func lists(a api.Weigh) [][]int {
	out := [][]int{a.First, a.Last}
	for _, table := range a.Step {
		out = append(out, table...)
	}
	return out
}

// roomy puts something behind the length of each list.
func roomy(a api.Weigh) api.Weigh {
	a = copied(a)
	a.First = append(a.First, 77)[:len(a.First)]
	a.Last = append(a.Last, 77)[:len(a.Last)]
	for l, table := range a.Step {
		for i, r := range table {
			table[i] = append(r, 77)[:len(r)]
		}
		a.Step[l] = append(table, []int{77})[:len(table)]
	}
	a.Step = append(a.Step, [][]int{{77}})[:len(a.Step)]
	return a
}

// whole is all that lies in its lists, also behind their lengths.
func whole(a api.Weigh) string {
	out := fmt.Sprint(a, a.Step[:cap(a.Step)])
	for _, table := range a.Step {
		out += fmt.Sprint(table[:cap(table)])
	}
	for _, r := range lists(a) {
		out += fmt.Sprint(r[:cap(r)])
	}
	return out
}

// spoil writes over all that was answered, also behind lengths, and looks whether the lists hold each other's.
func spoil(t *testing.T, a api.Weigh) {
	t.Helper()
	for i, r := range lists(a) {
		for j := range r[:cap(r)] {
			r[:cap(r)][j] = -1000 - i
		}
	}
	for i, r := range lists(a) {
		for j := range r[:cap(r)] {
			if r[:cap(r)][j] != -1000-i {
				t.Fatal("lists share memory")
			}
		}
	}
	for _, table := range a.Step {
		clear(table[:cap(table)])
	}
	clear(a.Step[:cap(a.Step)])
}

// Lists that come in are neither changed nor kept, and what comes out is new.
func TestMemory(t *testing.T) {
	x := dice(12)
	for range 200 {
		letters := 1 + x.roll(4)
		a, b := roomy(x.weigh(letters, 1+x.roll(4), 3, 1)), roomy(x.weigh(letters, 1+x.roll(2), 3, 2))
		w := append(x.word(letters, 9), 77)
		w = w[:len(w)-1]
		before := whole(a) + whole(b)
		value, _ := weigh.Value(a, w)
		n, _ := weigh.Rank(a)
		weigh.Check(a)
		s, _ := weigh.Sum(a, b)
		p, _ := weigh.Product(a, b)
		v, _, _ := weigh.Differ(a, b)
		again := slices.Clone(v)
		spoil(t, s)
		spoil(t, p)
		for i := range v[:cap(v)] {
			v[:cap(v)][i] = -1
		}
		if whole(a)+whole(b) != before || w[:len(w)+1][len(w)] != 77 {
			t.Fatal("changed:", a, b)
		}
		value2, _ := weigh.Value(a, w)
		n2, _ := weigh.Rank(a)
		if v, _, _ = weigh.Differ(a, b); value2 != value || n2 != n || !slices.Equal(v, again) {
			t.Fatal("kept:", a, b, w, value, value2, n, n2, v, again)
		}
	}
}

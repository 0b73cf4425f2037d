package word_test

import (
	"math"
	"slices"
	"testing"

	"evermore/api"
	"evermore/word"
)

func lasso(head, loop []int) api.Lasso { return api.Lasso{Head: head, Loop: loop} }

func repeat(x, n int) []int { return slices.Repeat([]int{x}, n) }

// unroll goes along the lasso letter by letter, so that it owes nothing to how the package reckons places.
func unroll(l api.Lasso, n int) []int {
	out := slices.Clone(l.Head)
	for len(out) < n {
		out = append(out, l.Loop...)
	}
	return out[:n]
}

// words gives all words over so many letters with at least low and at most high letters, shorter ones first.
func words(letters, low, high int) [][]int {
	level, out := [][]int{{}}, [][]int{}
	for n := 0; n <= high; n++ {
		if n >= low {
			out = append(out, level...)
		}
		var next [][]int
		for _, w := range level {
			for x := range letters {
				next = append(next, append(slices.Clone(w), x))
			}
		}
		level = next
	}
	return out
}

// lassos rise by the length of the head, then of the loop.
func lassos(letters, head, loop int) []api.Lasso {
	var out []api.Lasso
	for _, h := range words(letters, 0, head) {
		for _, o := range words(letters, 1, loop) {
			out = append(out, lasso(h, o))
		}
	}
	slices.SortStableFunc(out, func(a, b api.Lasso) int {
		if len(a.Head) != len(b.Head) {
			return len(a.Head) - len(b.Head)
		}
		return len(a.Loop) - len(b.Loop)
	})
	return out
}

func key(w []int) string {
	b := make([]byte, len(w))
	for i, x := range w {
		b[i] = byte('a' + x)
	}
	return string(b)
}

func equal(a, b api.Lasso) bool {
	return slices.Equal(a.Head, b.Head) && slices.Equal(a.Loop, b.Loop)
}

// A1: May.
func TestMay(t *testing.T) {
	for _, x := range []struct {
		name    string
		letters int
		w       []int
		want    api.Errno
	}{
		{"empty", 1, nil, api.OK},
		{"empty, not nil", 4, []int{}, api.OK},
		{"the one letter", 1, []int{0, 0}, api.OK},
		{"all letters", 4, []int{3, 2, 1, 0}, api.OK},
		{"as long as may be", 2, repeat(1, api.MaxWord), api.OK},
		{"one too long", 2, repeat(1, api.MaxWord+1), api.ErrSize},
		{"no letters at all", 0, nil, api.ErrRange},
		{"fewer than none", -1, nil, api.ErrRange},
		{"least int", math.MinInt, nil, api.ErrRange},
		{"one letter too many", api.MaxLetters + 1, nil, api.ErrRange},
		{"largest int", math.MaxInt, nil, api.ErrRange},
		{"no letter of so many", 2, []int{0, 1, 2}, api.ErrRange},
		{"no letter of one", 1, []int{1}, api.ErrRange},
		{"no letter of four", 4, []int{4}, api.ErrRange},
		{"below 0", 4, []int{0, -1}, api.ErrRange},
		{"far below 0", 4, []int{math.MinInt}, api.ErrRange},
		{"far above", 4, []int{math.MaxInt}, api.ErrRange},
		{"wrong at the end", 3, append(repeat(2, api.MaxWord-1), 3), api.ErrRange},
		{"letters ahead of size", 0, repeat(0, api.MaxWord+1), api.ErrRange},
		{"size ahead of a letter", 2, repeat(9, api.MaxWord+1), api.ErrSize},
	} {
		if got := word.May(x.letters, x.w); got != x.want {
			t.Errorf("%s: %v, not %v", x.name, got, x.want)
		}
	}
}

// A1: Lasso.
func TestLasso(t *testing.T) {
	long := repeat(0, api.MaxWord+1)
	full := repeat(1, api.MaxWord)
	for _, x := range []struct {
		name    string
		letters int
		l       api.Lasso
		want    api.Errno
	}{
		{"no head", 1, lasso(nil, []int{0}), api.OK},
		{"head and loop", 3, lasso([]int{2}, []int{0, 1}), api.OK},
		{"both as long as may be", 2, lasso(full, full), api.OK},
		{"empty loop", 2, lasso([]int{1}, nil), api.ErrSize},
		{"empty loop, not nil", 2, lasso([]int{1}, []int{}), api.ErrSize},
		{"nothing", 2, api.Lasso{}, api.ErrSize},
		{"no letters", 0, lasso(nil, []int{0}), api.ErrRange},
		{"too many letters", 5, lasso(nil, []int{0}), api.ErrRange},
		{"letters ahead of an empty loop", 5, api.Lasso{}, api.ErrRange},
		{"long head", 2, lasso(long, []int{0}), api.ErrSize},
		{"long loop", 2, lasso(nil, long), api.ErrSize},
		{"wrong head", 2, lasso([]int{2}, []int{0}), api.ErrRange},
		{"wrong loop", 2, lasso([]int{0}, []int{-1}), api.ErrRange},
		{"wrong head ahead of a long loop", 2, lasso([]int{2}, long), api.ErrRange},
		{"long head ahead of a wrong loop", 2, lasso(long, []int{2}), api.ErrSize},
		{"wrong head ahead of an empty loop", 2, lasso([]int{2}, nil), api.ErrRange},
	} {
		if got := word.Lasso(x.letters, x.l); got != x.want {
			t.Errorf("%s: %v, not %v", x.name, got, x.want)
		}
	}
}

// wrong lassos, of MaxLetters letters, and what is said of each.
func wrong() map[api.Errno][]api.Lasso {
	long := repeat(0, api.MaxWord+1)
	return map[api.Errno][]api.Lasso{
		api.ErrSize: {
			{}, lasso([]int{3}, nil), lasso(nil, []int{}), lasso(long, []int{0}),
			lasso(nil, long), lasso(long, []int{4}),
		},
		api.ErrRange: {
			lasso([]int{4}, []int{0}), lasso([]int{0}, []int{4}), lasso(nil, []int{-1}),
			lasso([]int{-1}, nil), lasso([]int{4}, long), lasso(nil, []int{0, 0, math.MaxInt}),
		},
	}
}

// A1: At, Normal, Rest, Same answer first what Lasso says; P2: all else is zero then.
func TestWrongLassos(t *testing.T) {
	good := lasso([]int{3}, []int{3, 2})
	for want, ls := range wrong() {
		for _, l := range ls {
			for _, n := range []int{0, 1, -1, math.MinInt, math.MaxInt} {
				if x, e := word.At(l, n); x != 0 || e != want {
					t.Error("At", l, n, x, e, want)
				}
				if x, e := word.Rest(l, n); len(x.Head)+len(x.Loop) != 0 || e != want {
					t.Error("Rest", l, n, x, e, want)
				}
			}
			if x, e := word.Normal(l); len(x.Head)+len(x.Loop) != 0 || e != want {
				t.Error("Normal", l, x, e, want)
			}
			for _, p := range [][2]api.Lasso{{l, good}, {good, l}, {l, l}} {
				if x, e := word.Same(p[0], p[1]); x || e != want {
					t.Error("Same", p, x, e, want)
				}
			}
		}
	}
}

// A1: of a, then of b.
func TestSameSaysTheFirstOnesErrorFirst(t *testing.T) {
	w := wrong()
	for _, size := range w[api.ErrSize] {
		for _, rng := range w[api.ErrRange] {
			if x, e := word.Same(size, rng); x || e != api.ErrSize {
				t.Error(size, rng, x, e)
			}
			if x, e := word.Same(rng, size); x || e != api.ErrRange {
				t.Error(rng, size, x, e)
			}
		}
	}
}

// A2, A3: a place below 0.
func TestPlaceBelowZero(t *testing.T) {
	l := lasso([]int{1}, []int{2, 3})
	for _, n := range []int{-1, -2, -60, math.MinInt} {
		if x, e := word.At(l, n); x != 0 || e != api.ErrRange {
			t.Error("At", n, x, e)
		}
		if x, e := word.Rest(l, n); len(x.Head)+len(x.Loop) != 0 || e != api.ErrRange {
			t.Error("Rest", n, x, e)
		}
	}
}

// A2: At, against the word written out.
func TestAtIsTheWordWrittenOut(t *testing.T) {
	for _, l := range lassos(3, 3, 3) {
		for n, want := range unroll(l, 16) {
			if x, e := word.At(l, n); x != want || e != api.OK {
				t.Fatal(l, n, x, e, want)
			}
		}
	}
}

// A2: the letters of MaxLetters, and places far out.
func TestAtFarOut(t *testing.T) {
	l := lasso([]int{3}, []int{0, 1, 2})
	for _, x := range []struct{ n, want int }{
		{0, 3}, {1, 0}, {3, 2}, {4, 0},
		{math.MaxInt, (math.MaxInt - 1) % 3}, {math.MaxInt - 1, (math.MaxInt - 2) % 3},
	} {
		if got, e := word.At(l, x.n); got != x.want || e != api.OK {
			t.Error(x, got, e)
		}
	}
	full := lasso(repeat(3, api.MaxWord), append(repeat(2, api.MaxWord-1), 1))
	for n, want := range unroll(full, 4*api.MaxWord) {
		if x, e := word.At(full, n); x != want || e != api.OK {
			t.Fatal(n, x, e, want)
		}
	}
}

// A2: Same, against the words written out: heads of 2, loops of 3 differ ahead of the place 2 + 3*2 + 2, or never.
func TestSameIsTheWordWrittenOut(t *testing.T) {
	ls := lassos(2, 2, 3)
	for _, a := range ls {
		for _, b := range ls {
			want := slices.Equal(unroll(a, 16), unroll(b, 16))
			if x, e := word.Same(a, b); x != want || e != api.OK {
				t.Fatal(a, b, x, e, want)
			}
		}
	}
}

// A2: two words that are alike for long.
func TestSameOfLongOnes(t *testing.T) {
	zeros, one := repeat(0, api.MaxWord), append(repeat(0, api.MaxWord-1), 1)
	for _, x := range []struct {
		a, b api.Lasso
		want bool
	}{
		{lasso(zeros, one), lasso(zeros, zeros), false},
		{lasso(zeros, zeros), lasso(nil, repeat(0, 7)), true},
		{lasso(one, one), lasso(nil, one), true},
		{lasso(zeros, one), lasso(zeros[:59], append([]int{0}, one[:59]...)), false},
		{lasso(one, zeros), lasso(one, zeros[:59]), true},
		{lasso(nil, one), lasso(zeros[:59], append([]int{1}, zeros[:59]...)), true},
		{lasso(nil, one), lasso(zeros[:58], append([]int{1}, zeros[:59]...)), false},
		{lasso([]int{3}, []int{2}), lasso([]int{3, 2, 2}, []int{2, 2, 2}), true},
		{lasso([]int{3}, []int{2}), lasso(nil, []int{2}), false},
	} {
		for _, p := range [][2]api.Lasso{{x.a, x.b}, {x.b, x.a}} {
			if got, e := word.Same(p[0], p[1]); got != x.want || e != api.OK {
				t.Error(p, got, e)
			}
		}
	}
}

// A3: Normal is the first of all lassos of the same infinite word, shortest head first, then shortest loop.
func TestNormalIsTheShortest(t *testing.T) {
	for _, size := range [][3]int{{2, 4, 6}, {3, 2, 4}} {
		all := lassos(size[0], size[1], size[2])
		far := size[1] + 2*size[2]*size[2]
		first := map[string]api.Lasso{}
		for _, l := range all {
			k := key(unroll(l, far))
			if _, ok := first[k]; !ok {
				first[k] = l
			}
			n, e := word.Normal(l)
			if want := first[k]; e != api.OK || !equal(n, want) {
				t.Fatal(l, n, e, want)
			}
		}
	}
}

// A3: lassos of all letters, long ones, and those that the document shows.
func TestNormal(t *testing.T) {
	full := api.MaxWord
	for _, x := range []struct{ l, want api.Lasso }{
		{lasso([]int{0, 1}, []int{0, 1, 0, 1}), lasso(nil, []int{0, 1})},
		{lasso([]int{0, 1}, []int{1, 1}), lasso([]int{0}, []int{1})},
		{lasso([]int{0}, []int{1}), lasso([]int{0}, []int{1})},
		{lasso([]int{2, 3, 1}, []int{2, 3, 1}), lasso(nil, []int{2, 3, 1})},
		{lasso([]int{3, 1}, []int{2, 3, 1}), lasso(nil, []int{3, 1, 2})},
		{lasso([]int{1, 3, 1}, []int{2, 3, 1}), lasso([]int{1}, []int{3, 1, 2})},
		{lasso(nil, []int{0, 1, 0}), lasso(nil, []int{0, 1, 0})},
		{lasso(nil, []int{0, 1, 0, 1, 0}), lasso(nil, []int{0, 1, 0, 1, 0})},
		{lasso(repeat(3, full), repeat(3, full)), lasso(nil, []int{3})},
		{lasso(repeat(3, full), repeat(2, full)), lasso(repeat(3, full), []int{2})},
		{lasso(repeat(0, full), append(repeat(0, full-1), 1)), lasso(repeat(0, full), append(repeat(0, full-1), 1))},
		{lasso(repeat(0, full), append([]int{1}, repeat(0, full-1)...)), lasso([]int{0}, append(repeat(0, full-1), 1))},
		{lasso(nil, slices.Repeat([]int{0, 1, 2}, full/3)), lasso(nil, []int{0, 1, 2})},
		{lasso(nil, slices.Repeat(append(repeat(0, 29), 1), 2)), lasso(nil, append(repeat(0, 29), 1))},
	} {
		if n, e := word.Normal(x.l); e != api.OK || !equal(n, x.want) {
			t.Error(x.l, n, e, x.want)
		}
	}
}

// A3: Rest, against Normal of what is left when the word is written out.
func TestRestIsWhatIsLeft(t *testing.T) {
	for _, l := range lassos(2, 4, 4) {
		for n := range 14 {
			left := unroll(l, n+60)[n:]
			head := max(0, len(l.Head)-n)
			want, _ := word.Normal(lasso(left[:head], left[head:head+len(l.Loop)]))
			if r, e := word.Rest(l, n); e != api.OK || !equal(r, want) {
				t.Fatal(l, n, r, e, want)
			}
		}
	}
}

// A3: what the document shows, and places far out.
func TestRest(t *testing.T) {
	l := lasso([]int{0, 1}, []int{0, 1, 0, 1})
	full := lasso(repeat(3, api.MaxWord), append(repeat(2, api.MaxWord-1), 1))
	for _, x := range []struct {
		l    api.Lasso
		n    int
		want api.Lasso
	}{
		{l, 0, lasso(nil, []int{0, 1})},
		{l, 5, lasso(nil, []int{1, 0})},
		{l, math.MaxInt, lasso(nil, []int{1, 0})},
		{l, math.MaxInt - 1, lasso(nil, []int{0, 1})},
		{lasso([]int{0, 1, 1}, []int{2}), 2, lasso([]int{1}, []int{2})},
		{lasso([]int{0, 1, 1}, []int{2}), 3, lasso(nil, []int{2})},
		{lasso([]int{0, 1}, []int{2, 1}), 1, lasso(nil, []int{1, 2})},
		{full, 0, full},
		{full, 59, lasso([]int{3}, full.Loop)},
		{full, 60, lasso(nil, full.Loop)},
		{full, 119, lasso(nil, append([]int{1}, repeat(2, 59)...))},
		{full, 120, lasso(nil, full.Loop)},
		{full, math.MaxInt - math.MaxInt%60, lasso(nil, full.Loop)},
	} {
		if r, e := word.Rest(x.l, x.n); e != api.OK || !equal(r, x.want) {
			t.Error(x.l, x.n, r, e, x.want)
		}
	}
}

// roomy hands out a list with something behind its length, to see that nobody looks or writes there.
func roomy(w ...int) []int { return append(slices.Clone(w), 77, 77, 77)[:len(w)] }

func spoil(w []int) {
	w = w[:cap(w)]
	for i := range w {
		w[i] = 99
	}
}

// P3: what is handed in is neither changed nor kept, and what comes out shares no memory.
func TestMemory(t *testing.T) {
	makes := []func() api.Lasso{
		func() api.Lasso { return lasso(roomy(1, 0), roomy(2, 3)) },
		func() api.Lasso { return lasso(roomy(), roomy(2, 3)) },
		func() api.Lasso { return lasso(roomy(0, 1), roomy(0, 1, 0, 1)) },
	}
	calls := []func(api.Lasso) api.Lasso{
		func(l api.Lasso) api.Lasso { n, _ := word.Normal(l); return n },
		func(l api.Lasso) api.Lasso { n, _ := word.Rest(l, 0); return n },
		func(l api.Lasso) api.Lasso { n, _ := word.Rest(l, 1); return n },
		func(l api.Lasso) api.Lasso { n, _ := word.Rest(l, 3); return n },
	}
	for _, fresh := range makes {
		for _, call := range calls {
			l, want := fresh(), call(fresh())
			got := call(l)
			loop := slices.Clone(got.Loop)
			spoil(got.Head)
			if !slices.Equal(got.Loop, loop) {
				t.Error("the lists of an answer share memory", got)
			}
			spoil(got.Loop)
			if x := fresh(); !equal(l, x) || !slices.Equal(l.Head[:cap(x.Head)], x.Head[:cap(x.Head)]) || !slices.Equal(l.Loop[:cap(x.Loop)], x.Loop[:cap(x.Loop)]) {
				t.Error("what was handed in is changed", l)
			}
			got = call(l)
			spoil(l.Head)
			spoil(l.Loop)
			if !equal(got, want) {
				t.Error("an answer shares memory with what was handed in", got, want)
			}
		}
	}
}

// P3: the same of one list handed in twice, and of calls that answer no list.
func TestNothingIsChanged(t *testing.T) {
	both := roomy(1, 0, 1)
	l := lasso(both, both)
	for range 2 {
		if e := word.Lasso(2, l); e != api.OK {
			t.Error(e)
		}
		if x, e := word.At(l, 3); x != 1 || e != api.OK {
			t.Error(x, e)
		}
		if x, e := word.Same(l, lasso(nil, both)); !x || e != api.OK {
			t.Error(x, e)
		}
		if n, e := word.Normal(l); e != api.OK || !equal(n, lasso(nil, []int{1, 0, 1})) {
			t.Error(n, e)
		}
	}
	if !slices.Equal(both[:6], []int{1, 0, 1, 77, 77, 77}) {
		t.Error(both[:6])
	}
}

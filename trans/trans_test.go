package trans_test

import (
	"fmt"
	"math"
	"reflect"
	"slices"
	"strings"
	"testing"

	"evermore/api"
	"evermore/trans"
)

// toggles says something to each of two letters, in each of two states.
func toggles() api.Trans { return read(2, "a", "b>1 ab>0 -", "->1 bb>0 b") }

// later says at the end what it could say at first.
func later() api.Trans { return read(1, "-", "a>0 a") }

// refused sees that no call does anything with t but tell what is wrong, whatever else is.
func refused(t *testing.T, name string, x api.Trans, want api.Errno) {
	t.Helper()
	if e := trans.Check(x); e != want {
		t.Errorf("%s: Check: %v, not %v", name, e, want)
	}
	for _, w := range [][]int{nil, {0}, {9}, make([]int, 61)} {
		if out, e := trans.Run(x, w); len(out) > 0 || e != want {
			t.Errorf("%s: Run: %v, %v, not %v", name, out, e, want)
		}
	}
	if l, e := trans.Least(x); !empty(l) || e != want {
		t.Errorf("%s: Least: %v, %v, not %v", name, l, e, want)
	}
	for _, y := range []api.Trans{toggles(), later(), {}, {In: 1, Out: 1}} {
		refusedBoth(t, name+", t", x, y, want)
	}
	for _, y := range []api.Trans{toggles(), later()} {
		refusedBoth(t, name+", u", y, x, want)
	}
}

func refusedBoth(t *testing.T, name string, x, y api.Trans, want api.Errno) {
	t.Helper()
	if w, differ, e := trans.Differ(x, y); len(w) > 0 || differ || e != want {
		t.Errorf("%s: Differ: %v, %v, %v, not %v", name, w, differ, e, want)
	}
	if l, e := trans.Behind(x, y); !empty(l) || e != want {
		t.Errorf("%s: Behind: %v, %v, not %v", name, l, e, want)
	}
}

// A change makes a transducer wrong, in the way that an error tells.
type change struct {
	name string
	do   func(x *api.Trans)
	want api.Errno
}

func changes() []change {
	long := func(l int) []int { return slices.Repeat([]int{l}, 9) }
	return []change{
		{"no In", func(x *api.Trans) { x.In = 0 }, api.ErrRange},
		{"In below", func(x *api.Trans) { x.In = math.MinInt }, api.ErrRange},
		{"In beyond", func(x *api.Trans) { x.In = 5 }, api.ErrRange},
		{"In far beyond", func(x *api.Trans) { x.In = math.MaxInt }, api.ErrRange},
		{"no Out", func(x *api.Trans) { x.Out = 0 }, api.ErrRange},
		{"Out below", func(x *api.Trans) { x.Out = -1 }, api.ErrRange},
		{"Out beyond", func(x *api.Trans) { x.Out = 5 }, api.ErrRange},
		{"Out far beyond", func(x *api.Trans) { x.Out = math.MaxInt }, api.ErrRange},

		{"no rows", func(x *api.Trans) { x.Next = nil }, api.ErrSize},
		{"seven rows", func(x *api.Trans) { *x = sized(7) }, api.ErrSize},
		{"very many rows", func(x *api.Trans) { x.Next = make([][]int, 1<<20) }, api.ErrSize},

		{"less Says", func(x *api.Trans) { x.Says = x.Says[:1] }, api.ErrShape},
		{"no Says", func(x *api.Trans) { x.Says = nil }, api.ErrShape},
		{"more Says", func(x *api.Trans) { x.Says = append(x.Says, x.Says[0]) }, api.ErrShape},
		{"less Last", func(x *api.Trans) { x.Last = x.Last[:1] }, api.ErrShape},
		{"no Last", func(x *api.Trans) { x.Last = nil }, api.ErrShape},
		{"more Last", func(x *api.Trans) { x.Last = append(x.Last, nil) }, api.ErrShape},
		{"less Next", func(x *api.Trans) { x.Next = x.Next[:1] }, api.ErrShape},
		{"a short row of Next", func(x *api.Trans) { x.Next[1] = x.Next[1][:1] }, api.ErrShape},
		{"no row of Next", func(x *api.Trans) { x.Next[0] = nil }, api.ErrShape},
		{"a long row of Next", func(x *api.Trans) { x.Next[0] = []int{0, 0, 0} }, api.ErrShape},
		{"a short row of Says", func(x *api.Trans) { x.Says[1] = x.Says[1][:1] }, api.ErrShape},
		{"no row of Says", func(x *api.Trans) { x.Says[0] = nil }, api.ErrShape},
		{"a long row of Says", func(x *api.Trans) { x.Says[1] = make([][]int, 3) }, api.ErrShape},
		{"In is another", func(x *api.Trans) { x.In = 1 }, api.ErrShape},

		{"no Start", func(x *api.Trans) { x.Start = 2 }, api.ErrRange},
		{"Start below", func(x *api.Trans) { x.Start = -1 }, api.ErrRange},
		{"Start far beyond", func(x *api.Trans) { x.Start = math.MaxInt }, api.ErrRange},
		{"no state", func(x *api.Trans) { x.Next[0][0] = 2 }, api.ErrRange},
		{"a state below", func(x *api.Trans) { x.Next[1][1] = -1 }, api.ErrRange},
		{"a state far below", func(x *api.Trans) { x.Next[0][1] = math.MinInt }, api.ErrRange},

		{"First too long", func(x *api.Trans) { x.First = long(0) }, api.ErrSize},
		{"First very long", func(x *api.Trans) { x.First = make([]int, 1<<20) }, api.ErrSize},
		{"Says too long", func(x *api.Trans) { x.Says[0][0] = long(1) }, api.ErrSize},
		{"the last Says too long", func(x *api.Trans) { x.Says[1][1] = long(1) }, api.ErrSize},
		{"Last too long", func(x *api.Trans) { x.Last[0] = long(0) }, api.ErrSize},
		{"the last Last too long", func(x *api.Trans) { x.Last[1] = long(0) }, api.ErrSize},

		{"First with no letter", func(x *api.Trans) { x.First = []int{0, 2} }, api.ErrRange},
		{"First below", func(x *api.Trans) { x.First = []int{-1} }, api.ErrRange},
		{"Says with no letter", func(x *api.Trans) { x.Says[0][0] = []int{2} }, api.ErrRange},
		{"Says below", func(x *api.Trans) { x.Says[1][1] = []int{0, 1, 0, -1} }, api.ErrRange},
		{"Says far beyond", func(x *api.Trans) { x.Says[1][0] = []int{math.MaxInt} }, api.ErrRange},
		{"Last with no letter", func(x *api.Trans) { x.Last[0] = []int{2} }, api.ErrRange},
		{"Last below", func(x *api.Trans) { x.Last[1] = []int{math.MinInt} }, api.ErrRange},
		{"Out is another", func(x *api.Trans) { x.Out = 1 }, api.ErrRange},
	}
}

// sized has so many states, of one letter.
func sized(states int) api.Trans {
	t := api.Trans{In: 1, Out: 1}
	for s := range states {
		t.Next, t.Says, t.Last = append(t.Next, []int{(s + 1) % states}), append(t.Says, [][]int{nil}), append(t.Last, nil)
	}
	return t
}

// P1: what Check says, and the others with it.
func TestRefuses(t *testing.T) {
	for _, c := range changes() {
		x := toggles()
		c.do(&x)
		refused(t, c.name, x, c.want)
	}
}

// P1: where several things are wrong, the first one is told.
func TestFirstIsTold(t *testing.T) {
	for _, y := range []struct {
		name string
		do   []func(x *api.Trans)
		want api.Errno
	}{
		{"In ahead of no rows", []func(*api.Trans){noIn, noRows}, api.ErrRange},
		{"Out ahead of no rows", []func(*api.Trans){noOut, noRows}, api.ErrRange},
		{"no rows ahead of Says", []func(*api.Trans){noRows, lessLast, longFirst}, api.ErrSize},
		{"shape ahead of Start", []func(*api.Trans){lessLast, noStart}, api.ErrShape},
		{"shape ahead of a state", []func(*api.Trans){lessSays, noState}, api.ErrShape},
		{"shape ahead of First", []func(*api.Trans){lessLast, longFirst, wrongLast}, api.ErrShape},
		{"a state ahead of First", []func(*api.Trans){noState, longFirst}, api.ErrRange},
		{"Start ahead of First", []func(*api.Trans){noStart, longFirst}, api.ErrRange},
		{"long ahead of wrong", []func(*api.Trans){wrongLast, longFirst}, api.ErrSize},
		{"long at the end ahead of wrong at first", []func(*api.Trans){wrongFirst, longLast}, api.ErrSize},
	} {
		x := toggles()
		for _, do := range y.do {
			do(&x)
		}
		refused(t, y.name, x, y.want)
	}
}

func noIn(x *api.Trans)       { x.In = 0 }
func noOut(x *api.Trans)      { x.Out = 5 }
func noRows(x *api.Trans)     { x.Next = nil }
func noState(x *api.Trans)    { x.Next[0][0] = 2 }
func noStart(x *api.Trans)    { x.Start = 2 }
func lessLast(x *api.Trans)   { x.Last = x.Last[:1] }
func lessSays(x *api.Trans)   { x.Says[1] = x.Says[1][:1] }
func longFirst(x *api.Trans)  { x.First = slices.Repeat([]int{7}, 9) }
func longLast(x *api.Trans)   { x.Last[1] = slices.Repeat([]int{7}, 9) }
func wrongLast(x *api.Trans)  { x.Last[0] = []int{2} }
func wrongFirst(x *api.Trans) { x.First = []int{-1} }

// P1: t's error ahead of u's; both ahead of what does not fit.
func TestBothRefused(t *testing.T) {
	for _, c := range changes() {
		for _, d := range changes() {
			x, y := toggles(), toggles()
			c.do(&x)
			d.do(&y)
			refusedBoth(t, c.name+", "+d.name, x, y, c.want)
		}
	}
}

// P1: all that may be, at its limits.
func TestMayBe(t *testing.T) {
	for _, x := range []api.Trans{
		toggles(), later(), sized(1), sized(6),
		read(4, "dddddddd", "dddddddd>0 a>0 b>0 cccccccc>0 abcdabcd"),
	} {
		if e := trans.Check(x); e != api.OK {
			t.Error(x, e)
		}
	}
	x := sized(6)
	x.Start = 5
	if e := trans.Check(x); e != api.OK {
		t.Error(e)
	}
}

// P2, by hand.
func TestRun(t *testing.T) {
	start := toggles()
	start.Start = 1
	for _, x := range []struct {
		t          api.Trans
		word, want string
	}{
		{later(), "-", "a"},
		{later(), "aa", "aaa"},
		{toggles(), "-", "a"},
		{toggles(), "a", "abb"},
		{toggles(), "b", "aab"},
		{toggles(), "aab", "abbb"},
		{toggles(), "aaba", "abbbbb"},
		{toggles(), "aa", "abb"},
		{start, "-", "ab"},
		{start, "a", "ab"},
		{start, "b", "abb"},
		{start, "ba", "abbbb"},
		{read(4, "d", "c>0 b>0 a>0 ->0 dcba"), "abcdcba", "dcbaabcdcba"},
	} {
		got, e := trans.Run(x.t, letters(x.word))
		if e != api.OK || !slices.Equal(got, letters(x.want)) {
			t.Error(x.t, x.word, got, e, x.want)
		}
	}
}

// P2: what May says of the word.
func TestRunRefuses(t *testing.T) {
	for _, x := range []struct {
		name string
		w    []int
		want api.Errno
	}{
		{"61 letters", make([]int, 61), api.ErrSize},
		{"61 wrong ones", slices.Repeat([]int{2}, 61), api.ErrSize},
		{"a letter of four", []int{0, 1, 2}, api.ErrRange},
		{"a letter below", []int{-1}, api.ErrRange},
		{"a letter far beyond", []int{math.MaxInt}, api.ErrRange},
	} {
		if out, e := trans.Run(toggles(), x.w); len(out) > 0 || e != x.want {
			t.Error(x.name, out, e, x.want)
		}
	}
	// Letters that are of Out, but not of In.
	if out, e := trans.Run(read(4, "-", "d>0 -"), []int{1}); len(out) > 0 || e != api.ErrRange {
		t.Error(out, e)
	}
	// Letters that are of In, but not of Out.
	if out, e := trans.Run(read(1, "-", "a>0 a>0 a>0 -"), []int{2}); len(out) != 1 || e != api.OK {
		t.Error(out, e)
	}
	out, e := trans.Run(read(1, "aaaaaaaa", "aaaaaaaa>0 aaaaaaaa"), make([]int, 60))
	if len(out) != 62*8 || e != api.OK {
		t.Error(len(out), e)
	}
}

// P2, at words of all lengths.
func TestRunAtAnything(t *testing.T) {
	x := dice(1)
	for range 3000 {
		y := x.trans(1+x.roll(4), 1+x.roll(4), 1+x.roll(6), x.roll(9))
		w := x.word(y.In, 60)
		got, e := trans.Run(y, w)
		if want := say(y, w); e != api.OK || !slices.Equal(got, want) {
			t.Fatal(y, w, got, e, want)
		}
	}
}

// P3, by hand: the example, and what each of Least's means does.
func TestLeast(t *testing.T) {
	for _, x := range []struct {
		name    string
		t, want api.Trans
	}{
		{"the example", later(), read(1, "a", "a>0 -")},
		{"pushed already", read(1, "a", "a>0 -"), read(1, "a", "a>0 -")},
		{"says nothing", sized(6), read(1, "-", "->0 -")},
		{"two letters are unlike", read(2, "-", "a>0 b>0 -"), read(2, "-", "a>0 b>0 -")},
		{"what both letters begin with", read(2, "-", "ab>1 aa>1 ab", "->1 ->1 -"), read(2, "a", "b>1 a>1 b", "->1 ->1 -")},
		{"numbered anew", read(2, "-", "->2 -", "b>0 -", "a>1 -"), read(2, "-", "->1 -", "a>2 -", "b>0 -")},
		{"not come to", read(2, "-", "a>0 -", "b>0 a"), read(2, "-", "a>0 -")},
		{"alike but for when", read(2, "-", "ab>1 -", "ab>2 -", "a>3 -", "bab>2 b"), read(2, "-", "ab>0 -")},
		{"alike but for Last", read(2, "-", "a>1 -", "a>0 b"), read(2, "-", "a>1 -", "a>0 b")},
		{"alike but for what comes later", read(2, "-", "a>1 -", "a>2 -", "a>0 b"), read(2, "-", "a>1 -", "a>2 -", "a>0 b")},
		{"said by the second letter first", read(2, "-", "->0 ->1 -", "a>1 b>0 -"), read(2, "-", "->0 ->1 -", "a>1 b>0 -")},
	} {
		if got, e := trans.Least(x.t); e != api.OK || show(got) != show(x.want) {
			t.Error(x.name, got, e, x.want)
		}
	}
	start := read(2, "b", "a>1 -", "b>0 a")
	start.Start = 1
	if got, e := trans.Least(start); e != api.OK || show(got) != show(read(2, "b", "b>1 a", "a>0 -")) {
		t.Error(got, e)
	}
	// Out stays, also where less letters are said.
	if got, e := trans.Least(read(4, "-", "a>0 -")); e != api.OK || got.Out != 4 {
		t.Error(got, e)
	}
}

// P3: what is said at once may have eight letters, not nine.
func TestLeastFull(t *testing.T) {
	for _, x := range []struct {
		name string
		t    api.Trans
		full bool
	}{
		{"eight at first", read(1, "aaaaaaa", "a>0 a"), false},
		{"nine at first", read(1, "aaaaaaaa", "a>0 a"), true},
		{"sixteen at first", read(1, "aaaaaaaa", "a>0 aaaaaaaa"), true},
		{"eight by a letter", read(2, "-", "aaaaaaa>1 -", "a>1 a"), false},
		{"nine by a letter", read(2, "-", "aaaaaaaa>1 -", "a>1 a"), true},
		{"nine by the second letter", read(2, "-", "->0 aaaaaaaa>1 -", "a>1 a>1 a"), true},
		{"sixteen, but eight of them earlier", read(2, "-", "aaaaaaaa>1 aaaaaaaa", "a>1 aaaaaaaa"), false},
		{"eight at the end", read(2, "-", "b>0 aaaaaaaa"), false},
		{"nine by a letter that does not come", read(2, "-", "b>0 -", "aaaaaaaa>2 -", "a>2 a"), false},
	} {
		got, e := trans.Least(x.t)
		if x.full && (e != api.ErrFull || !empty(got)) || !x.full && e != api.OK {
			t.Error(x.name, got, e)
		}
		if hearLeast(t, x.t, 12) == x.full {
			t.Error(x.name, "is full:", !x.full)
		}
	}
}

// P3: all of one letter, of two states that say little.
func TestLeastOfAllSmall(t *testing.T) {
	little := []string{"-", "a", "b", "ab"}
	n := 0
	for i := range 4 * 4 * 4 * 4 * 4 * 4 {
		pick := func(k int) string { return little[i>>k&3] }
		x := read(2, "-", pick(0)+">"+string("01"[i>>8&1])+" "+pick(2), pick(4)+">"+string("01"[i>>9&1])+" "+pick(6))
		x.Start, x.First = i>>10&1, letters(little[i>>10&2])
		if hearLeast(t, x, 8) {
			n++
		}
	}
	if n != 4096 {
		t.Error("some say too much:", n)
	}
}

// P3: of one letter, whatever the size: what is said to 60 letters tells all.
func TestLeastOfOneLetter(t *testing.T) {
	x := dice(2)
	var within [2]int
	for range 400 {
		y := x.trans(1, 1+x.roll(2), 1+x.roll(6), x.roll(9))
		if x.roll(3) == 0 {
			round(y)
			y.First = slices.Repeat([]int{0}, 5+x.roll(4))
			for s := range y.Last {
				y.Last[s] = append([]int{0}, x.word(y.Out, 7)...)
			}
		}
		within[bit(hearLeast(t, y, 60))]++
	}
	if min(within[0], within[1]) < 50 {
		t.Error("too much of one kind:", within)
	}
}

// round lets the first letter lead to each state, one after the other.
func round(t api.Trans) {
	for s, row := range t.Next {
		row[0] = (s + 1) % len(t.Next)
	}
}

func bit(is bool) int {
	if is {
		return 1
	}
	return 0
}

// P3: of more letters.
func TestLeastOfMoreLetters(t *testing.T) {
	x := dice(3)
	for i := range 900 {
		in := 2 + i%3
		y := x.trans(in, 1+x.roll(3), 1+x.roll(4), x.roll(3))
		if i%2 == 0 {
			y = x.disguised(y)
		}
		hearLeast(t, y, []int{7, 5, 4}[in-2])
	}
}

// P3: one that says the same by other means has the same least one; and the least one is its own.
func TestLeastIsOne(t *testing.T) {
	x := dice(4)
	n := 0
	for range 4000 {
		y := x.trans(1+x.roll(4), 1+x.roll(4), 1+x.roll(5), 2)
		l, e := trans.Least(y)
		m, f := trans.Least(x.disguised(y))
		if e != f || show(l) != show(m) {
			t.Fatal(y, l, e, m, f)
		}
		if e == api.OK {
			n++
			if m, f = trans.Least(l); f != api.OK || show(l) != show(m) {
				t.Fatal(y, l, m, f)
			}
		}
	}
	if n < 2000 {
		t.Error("too few are within:", n)
	}
}

// P4, by hand.
func TestDiffer(t *testing.T) {
	five := read(2, "-", "->1 -", "->2 -", "->3 -", "->4 -", "->0 b")
	six := read(2, "-", "->1 -", "->2 -", "->3 -", "->4 -", "->5 b", "->0 -")
	for _, x := range []struct {
		name string
		t, u api.Trans
		word string
		told bool
	}{
		{"the example", later(), read(1, "a", "a>0 -"), "-", false},
		{"itself", toggles(), toggles(), "-", false},
		{"no word", later(), read(1, "-", "a>0 -"), "-", true},
		{"no word, but first", read(2, "a", "a>0 -"), read(2, "b", "a>0 -"), "-", true},
		{"one letter", read(2, "-", "a>0 b>0 -"), read(2, "-", "a>0 a>0 -"), "b", true},
		{"the first of two", read(2, "-", "b>0 b>0 -"), read(2, "-", "a>0 a>0 -"), "a", true},
		{"the shorter one", read(2, "-", "->1 b>0 -", "b>1 ->1 -"), read(2, "-", "->1 a>0 -", "a>1 ->1 -"), "b", true},
		{"five and six", five, six, "aaaaaaaaa", true},
		{"six and five", six, five, "aaaaaaaaa", true},
		{"said later, and less", read(2, "-", "a>0 -"), read(2, "-", "->1 -", "a>1 a"), "-", false},
		{"said ever later", read(2, "-", "aa>0 -"), read(2, "-", "a>1 -", "a>1 a"), "aa", true},
		{"the same length", read(2, "-", "a>1 -", "b>0 -"), read(2, "-", "a>1 -", "a>0 -"), "aa", true},
	} {
		w, told, e := trans.Differ(x.t, x.u)
		if e != api.OK || told != x.told || !slices.Equal(w, letters(x.word)) {
			t.Error(x.name, w, told, e)
		}
		holdDiffer(t, x.t, x.u, 10)
		holdDiffer(t, x.u, x.t, 10)
	}
}

// P4: they have not the same letters.
func TestDifferRefuses(t *testing.T) {
	for in := range 4 {
		for out := range 4 {
			a, b := read(out+1, "-", strings.Repeat("->0 ", in+1)+"-"), read(2, "-", "->0 ->0 ->0 -")
			want := api.ErrShape
			if in == 2 && out == 1 {
				want = api.OK
			}
			for _, y := range [][2]api.Trans{{a, b}, {b, a}} {
				if w, told, e := trans.Differ(y[0], y[1]); len(w) > 0 || told || e != want {
					t.Error(in, out, w, told, e, want)
				}
			}
		}
	}
}

// P4: all pairs of one letter, of two states that say little.
func TestDifferOfAllSmall(t *testing.T) {
	var all []api.Trans
	for i := range 3 * 3 * 3 * 3 * 4 {
		pick := func(k int) string { return []string{"-", "a", "aa"}[i/k%3] }
		to := func(k int) string { return string("01"[i/k%2]) }
		all = append(all, read(1, "-", pick(1)+">"+to(81)+" "+pick(3), pick(9)+">"+to(162)+" "+pick(27)))
	}
	n := 0
	for _, a := range all {
		for _, b := range all {
			if !holdDiffer(t, a, b, 5) {
				n++
			}
		}
	}
	if n <= len(all) {
		t.Error("none are alike:", n)
	}
}

// P4: of what is nearly alike, whatever the size.
func TestDifferOfNearlyAlike(t *testing.T) {
	x := dice(5)
	var told [2]int
	far := 0
	for i := range 3000 {
		in := 1 + i%4
		y := x.trans(in, 1+x.roll(4), 1+x.roll(6), x.roll(4))
		z := x.disguised(y)
		if i%3 > 0 {
			z = x.changed(z)
		}
		told[bit(holdDiffer(t, y, z, []int{36, 8, 5, 4}[in-1]))]++
		w, _, _ := trans.Differ(y, z)
		far = max(far, len(w))
	}
	if min(told[0], told[1]) < 500 || far < 5 {
		t.Error("too much of one kind:", told, far)
	}
}

// P3, P4: two are alike just if their least ones are the same.
func TestDifferAndLeast(t *testing.T) {
	x := dice(6)
	var told [2]int
	for range 4000 {
		y := x.trans(1+x.roll(4), 1+x.roll(4), 1+x.roll(6), 2)
		z := x.changed(x.disguised(y))
		l, e := trans.Least(y)
		m, f := trans.Least(z)
		if e != api.OK || f != api.OK {
			continue
		}
		w, differ, _ := trans.Differ(y, z)
		if differ == (show(l) == show(m)) || differ == slices.Equal(say(y, w), say(z, w)) {
			t.Fatal(y, z, w, differ)
		}
		told[bit(differ)]++
	}
	if min(told[0], told[1]) < 200 {
		t.Error("too much of one kind:", told)
	}
}

// P5, by hand.
func TestBehind(t *testing.T) {
	twice := read(1, "-", "aa>0 -")
	for _, x := range []struct {
		name       string
		t, u, want api.Trans
	}{
		{"twice", later(), twice, read(1, "aa", "aa>0 -")},
		{"twice, and again", twice, twice, read(1, "-", "aaaa>0 -")},
		{"what is said first", read(2, "ab", "a>0 -"), read(3, "c", "a>0 b>1 -", "b>0 a>1 -"), read(3, "cab", "b>1 -", "a>1 -")},
		{"what is said last", read(2, "-", "a>0 b"), read(3, "-", "a>0 b>1 -", "->1 ->1 c"), read(3, "-", "a>0 bc")},
		{"other letters", read(2, "-", "a>0 b>0 ab>0 -"), read(4, "-", "c>0 d>0 -"), read(4, "-", "c>0 d>0 cd>0 -")},
	} {
		got, e := trans.Behind(x.t, x.u)
		if e != api.OK || show(got) != show(x.want) {
			t.Error(x.name, got, e, x.want)
		}
		if !hearBehind(t, x.t, x.u, 5) {
			t.Error(x.name, "is full")
		}
	}
}

// P5: t's Out is not u's In. Its own In, and u's Out, may be any.
func TestBehindRefuses(t *testing.T) {
	row := func(in int) string { return strings.Repeat("->0 ", in) + "-" }
	for i := range 4 * 4 * 4 * 4 {
		a, b := read(1+i/4%4, "-", row(1+i%4)), read(1+i/64, "-", row(1+i/16%4))
		l, e := trans.Behind(a, b)
		if a.Out != b.In && (e != api.ErrShape || !empty(l)) {
			t.Error(a, b, l, e)
		}
		if a.Out == b.In && (e != api.OK || l.In != a.In || l.Out != b.Out) {
			t.Error(a, b, l, e)
		}
	}
}

// cycle says b to the last letter of each round, else a.
func cycle(states int) api.Trans {
	t := sized(states)
	t.Out = 2
	for s := range states {
		t.Says[s][0] = []int{bit(s == states-1)}
	}
	return t
}

// wheel says b to a b at the end of a round, else a.
func wheel(states int) api.Trans {
	t := api.Trans{In: 2, Out: 2}
	for s := range states {
		next := (s + 1) % states
		t.Next, t.Last = append(t.Next, []int{next, next}), append(t.Last, nil)
		t.Says = append(t.Says, [][]int{{0}, {bit(s == states-1)}})
	}
	return t
}

// late says b to each letter behind as many as there are states but one, else nothing.
func late(states int) api.Trans {
	t := sized(states)
	t.Out, t.Next[states-1][0], t.Says[states-1][0] = 2, states-1, []int{1}
	return t
}

// P5: six states may be, not seven; what counts are those of the least one. Nine letters at once may not be.
func TestBehindFull(t *testing.T) {
	once := read(2, "-", "->0 ->1 -", "->1 ->1 b") // says b at the end, if there is one
	dumb := read(2, "-", "a>1 a>1 -", "a>2 a>2 -", "a>3 a>3 -", "a>4 a>4 -", "a>5 a>5 -", "a>0 a>0 -")
	for _, x := range []struct {
		name   string
		t, u   api.Trans
		states int
	}{
		{"two and three", cycle(2), wheel(3), 6},
		{"three and two", cycle(3), wheel(2), 6},
		{"six and one", cycle(6), wheel(1), 6},
		{"six and three", cycle(6), wheel(3), 6},
		{"two and four", cycle(2), wheel(4), 4},
		{"one and six", cycle(1), wheel(6), 6},
		{"30 pairs, all alike", cycle(5), dumb, 1},
		{"30 pairs, all unlike", cycle(5), wheel(6), 0},
		{"ten", cycle(5), wheel(2), 0},
		{"four and two", cycle(4), wheel(2), 4},
		{"six by and by", late(5), once, 6},
		{"seven by and by", late(6), once, 0},
		{"64 letters at once", read(1, "-", "aaaaaaaa>0 -"), read(1, "-", "aaaaaaaa>0 -"), 0},
		{"nine at first", read(1, "aaa", "->0 -"), read(1, "-", "aaa>0 -"), 0},
		{"nine at first, by u's", read(1, "aa", "->0 -"), read(1, "aaa", "aaa>0 -"), 0},
		{"eight at first", read(1, "aa", "->0 -"), read(1, "aa", "aaa>0 -"), 1},
		{"nine by a letter", read(1, "-", "aaa>0 -"), read(1, "-", "aaa>0 -"), 0},
		{"eight by a letter", read(1, "-", "aa>0 -"), read(1, "-", "aaaa>0 -"), 1},
		{"ten at the end", read(2, "-", "b>0 aaaaa"), read(2, "-", "aa>0 b>0 -"), 0},
		{"eight at the end", read(2, "-", "b>0 aaaa"), read(2, "-", "aa>0 b>0 -"), 1},
		{"nine at the end, by u's", read(2, "-", "b>0 aaaa"), read(2, "-", "aa>0 b>0 b"), 0},
		{"sixteen at the end, eight of them first", read(2, "-", "aaaaa>1 aaaabbbb", "->1 -"), read(2, "-", "aa>0 bb>0 -"), 2},
	} {
		l, e := trans.Behind(x.t, x.u)
		if x.states == 0 && (e != api.ErrFull || !empty(l)) || x.states > 0 && (e != api.OK || len(l.Next) != x.states) {
			t.Error(x.name, l, e)
		}
		if hearBehind(t, x.t, x.u, 40) != (x.states > 0) {
			t.Error(x.name, "is full:", x.states > 0)
		}
	}
}

// P5: rounds of all sizes within one another.
func TestBehindOfRounds(t *testing.T) {
	var within [2]int
	for n := range 6 {
		for m := range 6 {
			within[bit(hearBehind(t, cycle(n+1), wheel(m+1), 60))]++
			within[bit(hearBehind(t, late(n+1), wheel(m+1), 60))]++
		}
	}
	if min(within[0], within[1]) < 20 {
		t.Error("too much of one kind:", within)
	}
}

// P5, of one letter, whatever the size.
func TestBehindOfOneLetter(t *testing.T) {
	x := dice(7)
	var within [2]int
	for range 300 {
		out := 1 + x.roll(3)
		a, b := x.trans(1, out, 1+x.roll(6), x.roll(4)), x.trans(out, 1+x.roll(4), 1+x.roll(6), x.roll(4))
		if x.roll(2) == 0 {
			round(a)
			round(b)
		}
		within[bit(hearBehind(t, a, b, 60))]++
	}
	if min(within[0], within[1]) < 25 {
		t.Error("too much of one kind:", within)
	}
}

// P5, of more letters.
func TestBehindOfMoreLetters(t *testing.T) {
	x := dice(8)
	var within [2]int
	for i := range 300 {
		in, out := 2+i%3, 1+x.roll(3)
		a, b := x.trans(in, out, 1+x.roll(4), x.roll(3)), x.trans(out, 1+x.roll(3), 1+x.roll(4), x.roll(4))
		round(b)
		within[bit(hearBehind(t, a, b, []int{7, 5, 4}[in-2]))]++
	}
	if min(within[0], within[1]) < 25 {
		t.Error("too much of one kind:", within)
	}
}

// P5: what is said is what u says to what t says, in the words of Run.
func TestBehindRuns(t *testing.T) {
	x := dice(9)
	for range 2000 {
		out := 1 + x.roll(4)
		a, b := x.trans(1+x.roll(4), out, 1+x.roll(2), 2), x.trans(out, 1+x.roll(4), 1+x.roll(3), 2)
		l, e := trans.Behind(a, b)
		if e != api.OK {
			continue
		}
		w := x.word(a.In, 25)
		mid, _ := trans.Run(a, w)
		want, f := trans.Run(b, mid)
		if got, g := trans.Run(l, w); f != api.OK || g != api.OK || !slices.Equal(got, want) {
			t.Fatal(a, b, w, got, g, want, f)
		}
	}
}

// roomy puts something behind the length of each list.
func roomy(t api.Trans) api.Trans {
	t = copied(t)
	t.First = append(t.First, 77)[:len(t.First)]
	t.Next = append(t.Next, []int{77})[:len(t.Next)]
	t.Says = append(t.Says, [][]int{{77}})[:len(t.Says)]
	t.Last = append(t.Last, []int{77})[:len(t.Last)]
	for s := range t.Next {
		t.Next[s] = append(t.Next[s], 77)[:t.In]
		t.Says[s] = append(t.Says[s], []int{77})[:t.In]
		t.Last[s] = append(t.Last[s], 77)[:len(t.Last[s])]
		for l := range t.Says[s] {
			t.Says[s][l] = append(t.Says[s][l], 77)[:len(t.Says[s][l])]
		}
	}
	return t
}

// whole is all that lies in its lists, also behind their lengths.
func whole(t api.Trans) string {
	out := fmt.Sprint(t, t.First[:cap(t.First)], t.Next[:cap(t.Next)], t.Says[:cap(t.Says)], t.Last[:cap(t.Last)])
	for s := range t.Next {
		out += fmt.Sprint(t.Next[s][:cap(t.Next[s])], t.Says[s][:cap(t.Says[s])], t.Last[s][:cap(t.Last[s])])
		for _, x := range t.Says[s] {
			out += fmt.Sprint(x[:cap(x)])
		}
	}
	return out
}

// spoil writes over all that was answered, also behind lengths, and looks whether the lists hold each other's.
func spoil(t *testing.T, l api.Trans) {
	t.Helper()
	lists := [][]int{l.First}
	for s := range l.Next {
		lists = append(lists, l.Next[s], l.Last[s])
		lists = append(lists, l.Says[s]...)
	}
	for i, x := range lists {
		for j := range x[:cap(x)] {
			x[:cap(x)][j] = -1000 - i
		}
	}
	for i, x := range lists {
		for j := range x[:cap(x)] {
			if x[:cap(x)][j] != -1000-i {
				t.Fatal("lists share memory")
			}
		}
	}
}

// Lists that come in are neither changed nor kept, and what comes out is new.
func TestMemory(t *testing.T) {
	x := dice(10)
	for range 300 {
		out := 1 + x.roll(3)
		a := roomy(x.trans(out, out, 1+x.roll(4), 2))
		b := roomy(x.disguised(a))
		w := append(x.word(out, 9), 77)
		w = w[:len(w)-1]
		before := whole(a) + whole(b)
		said, _ := trans.Run(a, w)
		again := slices.Clone(said)
		l, _ := trans.Least(a)
		c, _ := trans.Behind(a, b)
		trans.Check(a)
		v, _, _ := trans.Differ(a, x.changed(b))
		spoil(t, l)
		spoil(t, c)
		for _, y := range [][]int{said, v} {
			for i := range y[:cap(y)] {
				y[:cap(y)][i] = -1
			}
		}
		if whole(a)+whole(b) != before || w[:len(w)+1][len(w)] != 77 {
			t.Fatal("changed:", a, b)
		}
		if said, _ = trans.Run(a, w); !reflect.DeepEqual(said, again) {
			t.Fatal("kept:", a, w, said, again)
		}
	}
}

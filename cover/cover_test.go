package cover_test

import (
	"fmt"
	"math"
	"slices"
	"testing"

	"evermore/api"
	"evermore/cover"
)

// twice is the example: a step doubles into the second heap, another one brings back.
func twice() api.Heaps { return read(2, "10>02 01>10") }

// wide has as many steps as is said, of so many heaps, and the same number everywhere.
func wide(places, steps, x int) api.Heaps {
	n := api.Heaps{Places: places}
	for range steps {
		n.Takes = append(n.Takes, slices.Repeat([]int{x}, places))
		n.Gives = append(n.Gives, slices.Repeat([]int{x}, places))
	}
	return n
}

func refusedFire(t *testing.T, name string, n api.Heaps, state []int, step int, want api.Errno) {
	t.Helper()
	if l, e := cover.Fire(n, state, step); len(l) > 0 || e != want {
		t.Errorf("%s: Fire: %v, %v, not %v", name, l, e, want)
	}
}

func refusedCover(t *testing.T, name string, n api.Heaps, state, goal []int, want api.Errno) {
	t.Helper()
	c, e := cover.Cover(n, state, goal)
	if c.Can || len(c.Steps)+len(c.Bars) > 0 || e != want {
		t.Errorf("%s: Cover: %v, %v, not %v", name, c, e, want)
	}
}

func refusedBound(t *testing.T, name string, n api.Heaps, state []int, want api.Errno) {
	t.Helper()
	p, e := cover.Bound(n, state)
	if p.Bounded || len(p.First)+len(p.Again) > 0 || e != want {
		t.Errorf("%s: Bound: %v, %v, not %v", name, p, e, want)
	}
}

// refused sees that no call does anything with n but tell what is wrong, whatever else is.
func refused(t *testing.T, name string, n api.Heaps, want api.Errno) {
	t.Helper()
	if e := cover.Check(n); e != want {
		t.Errorf("%s: Check: %v, not %v", name, e, want)
	}
	for _, state := range [][]int{nil, {1, 0}, {0, 0}, {11, -1}, {5}, {1, 2, 3, 4}} {
		refusedBound(t, name, n, state, want)
		for _, step := range []int{0, 1, -1, 8} {
			refusedFire(t, name, n, state, step, want)
		}
		for _, goal := range [][]int{nil, {1, 0}, {11, 0}} {
			refusedCover(t, name, n, state, goal, want)
		}
	}
}

// A change makes heaps wrong, in the way that an error tells.
type change struct {
	name string
	do   func(n *api.Heaps)
	want api.Errno
}

func changes() []change {
	return []change{
		{"no heaps", func(n *api.Heaps) { n.Places = 0 }, api.ErrSize},
		{"no heaps, and no numbers", func(n *api.Heaps) { *n = wide(0, 2, 0) }, api.ErrSize},
		{"nothing at all", func(n *api.Heaps) { *n = api.Heaps{} }, api.ErrSize},
		{"heaps below", func(n *api.Heaps) { n.Places = -1 }, api.ErrSize},
		{"heaps far below", func(n *api.Heaps) { n.Places = math.MinInt }, api.ErrSize},
		{"heaps beyond", func(n *api.Heaps) { n.Places = 5 }, api.ErrSize},
		{"heaps far beyond", func(n *api.Heaps) { n.Places = math.MaxInt }, api.ErrSize},
		{"five heaps, as many numbers", func(n *api.Heaps) { *n = wide(5, 2, 1) }, api.ErrSize},
		{"nine steps", func(n *api.Heaps) { *n = wide(2, 9, 1) }, api.ErrSize},
		{"nine in Takes", func(n *api.Heaps) { n.Takes = wide(2, 9, 1).Takes }, api.ErrSize},
		{"very many in Takes", func(n *api.Heaps) { n.Takes = make([][]int, 1<<20) }, api.ErrSize},

		{"less in Gives", func(n *api.Heaps) { n.Gives = n.Gives[:1] }, api.ErrShape},
		{"nothing in Gives", func(n *api.Heaps) { n.Gives = nil }, api.ErrShape},
		{"nine in Gives", func(n *api.Heaps) { n.Gives = wide(2, 9, 1).Gives }, api.ErrShape},
		{"more in Gives", func(n *api.Heaps) { n.Gives = append(n.Gives, []int{1, 1}) }, api.ErrShape},
		{"less in Takes", func(n *api.Heaps) { n.Takes = n.Takes[:1] }, api.ErrShape},
		{"nothing in Takes", func(n *api.Heaps) { n.Takes = nil }, api.ErrShape},
		{"less heaps", func(n *api.Heaps) { n.Places = 1 }, api.ErrShape},
		{"more heaps", func(n *api.Heaps) { n.Places = 4 }, api.ErrShape},
		{"a short row of Takes", func(n *api.Heaps) { n.Takes[0] = []int{1} }, api.ErrShape},
		{"a long row of Takes", func(n *api.Heaps) { n.Takes[1] = []int{1, 0, 0} }, api.ErrShape},
		{"an empty row of Takes", func(n *api.Heaps) { n.Takes[1] = nil }, api.ErrShape},
		{"a short row of Gives", func(n *api.Heaps) { n.Gives[1] = []int{1} }, api.ErrShape},
		{"a long row of Gives", func(n *api.Heaps) { n.Gives[0] = []int{1, 0, 0} }, api.ErrShape},
		{"an empty row of Gives", func(n *api.Heaps) { n.Gives[0] = nil }, api.ErrShape},

		{"3 in Takes", func(n *api.Heaps) { n.Takes[0][1] = 3 }, api.ErrRange},
		{"-1 in Takes", func(n *api.Heaps) { n.Takes[1][0] = -1 }, api.ErrRange},
		{"Takes far beyond", func(n *api.Heaps) { n.Takes[1][1] = math.MaxInt }, api.ErrRange},
		{"Takes far below", func(n *api.Heaps) { n.Takes[0][0] = math.MinInt }, api.ErrRange},
		{"3 in Gives", func(n *api.Heaps) { n.Gives[1][1] = 3 }, api.ErrRange},
		{"-1 in Gives", func(n *api.Heaps) { n.Gives[0][0] = -1 }, api.ErrRange},
		{"Gives far beyond", func(n *api.Heaps) { n.Gives[0][1] = math.MaxInt }, api.ErrRange},
		{"Gives far below", func(n *api.Heaps) { n.Gives[1][0] = math.MinInt }, api.ErrRange},
	}
}

// S1: what Check says, and the others with it.
func TestRefuses(t *testing.T) {
	for _, c := range changes() {
		n := twice()
		c.do(&n)
		refused(t, c.name, n, c.want)
	}
}

// S1: where several things are wrong, the first one is told.
func TestFirstIsTold(t *testing.T) {
	heavy := func(n *api.Heaps) { n.Takes[0][0], n.Gives[0][0] = 3, -1 }
	short := func(n *api.Heaps) { n.Gives[1] = n.Gives[1][:1] }
	noHeaps := func(n *api.Heaps) { n.Places = 0 }
	lessGives := func(n *api.Heaps) { n.Gives = n.Gives[:1] }
	nine := func(n *api.Heaps) { n.Takes = append(n.Takes, wide(2, 7, 9).Takes...) }
	for _, y := range []struct {
		name string
		do   []func(n *api.Heaps)
		want api.Errno
	}{
		{"size ahead of numbers", []func(*api.Heaps){heavy, noHeaps}, api.ErrSize},
		{"size ahead of rows", []func(*api.Heaps){short, noHeaps}, api.ErrSize},
		{"steps ahead of Gives", []func(*api.Heaps){nine}, api.ErrSize},
		{"Gives ahead of numbers", []func(*api.Heaps){heavy, lessGives}, api.ErrShape},
		{"a row ahead of numbers", []func(*api.Heaps){heavy, short}, api.ErrShape},
	} {
		n := twice()
		for _, do := range y.do {
			do(&n)
		}
		refused(t, y.name, n, y.want)
	}
}

// S1: all that may be, at its limits.
func TestMayBe(t *testing.T) {
	for places := 1; places <= 4; places++ {
		for steps := range 9 {
			for x := range 3 {
				if e := cover.Check(wide(places, steps, x)); e != api.OK {
					t.Error(places, steps, x, e)
				}
			}
		}
		n := wide(places, 8, 1)
		for _, state := range [][]int{make([]int, places), slices.Repeat([]int{10}, places)} {
			holdBound(t, n, state, 1)
			holdCover(t, n, state, state)
		}
	}
	if e := cover.Check(api.Heaps{Places: 3, Takes: [][]int{}}); e != api.OK {
		t.Error(e)
	}
}

// S1: what is wrong with a state: the state's error ahead of the goal's, both ahead of what is wrong with a step.
func TestStatesRefused(t *testing.T) {
	n, good := twice(), []int{1, 0}
	all := map[string]struct {
		state []int
		want  api.Errno
	}{
		"none":             {nil, api.ErrShape},
		"a number less":    {[]int{1}, api.ErrShape},
		"a number more":    {[]int{1, 0, 0}, api.ErrShape},
		"more, and wrong":  {[]int{11, -1, 0}, api.ErrShape},
		"very many":        {make([]int, 1<<20), api.ErrShape},
		"11":               {[]int{0, 11}, api.ErrRange},
		"-1":               {[]int{-1, 0}, api.ErrRange},
		"far beyond":       {[]int{math.MaxInt, 0}, api.ErrRange},
		"far below":        {[]int{0, math.MinInt}, api.ErrRange},
		"two wrong things": {[]int{11, -1}, api.ErrRange},
	}
	for name, x := range all {
		refusedBound(t, name, n, x.state, x.want)
		for _, step := range []int{0, 1, 2, -1} {
			refusedFire(t, name, n, x.state, step, x.want)
		}
		refusedCover(t, name, n, x.state, good, x.want)
		refusedCover(t, name, n, good, x.state, x.want)
		for _, y := range all {
			refusedCover(t, name, n, x.state, y.state, x.want)
		}
	}
}

// S2, by hand.
func TestFire(t *testing.T) {
	n := read(3, "000>000 111>000 000>222 210>012 002>002 222>111")
	for _, x := range []struct {
		state string
		step  int
		want  string
	}{
		{"0 0 0", 0, "0 0 0"},
		{"3 4 5", 0, "3 4 5"},
		{"1 1 1", 1, "0 0 0"},
		{"10 1 7", 1, "9 0 6"},
		{"0 0 0", 2, "2 2 2"},
		{"10 10 10", 2, "12 12 12"},
		{"2 1 0", 3, "0 1 2"},
		{"3 1 10", 3, "1 1 12"},
		{"0 0 2", 4, "0 0 2"},
		{"2 2 2", 5, "1 1 1"},
	} {
		got, e := cover.Fire(n, row(x.state), x.step)
		if e != api.OK || !slices.Equal(got, row(x.want)) {
			t.Error(x.state, x.step, got, e)
		}
	}
}

// S2: what there is no step for, and what a step cannot be done for.
func TestFireRefuses(t *testing.T) {
	n := read(2, "10>02 01>10 22>22")
	for _, step := range []int{3, 8, -1, math.MaxInt, math.MinInt} {
		refusedFire(t, "no such step", n, []int{2, 2}, step, api.ErrName)
		refusedFire(t, "no such step, nothing there", n, []int{0, 0}, step, api.ErrName)
	}
	refusedFire(t, "no steps", api.Heaps{Places: 1}, []int{1}, 0, api.ErrName)
	for _, x := range []struct {
		state []int
		step  int
	}{{[]int{0, 10}, 0}, {[]int{10, 0}, 1}, {[]int{0, 0}, 0}, {[]int{1, 2}, 2}, {[]int{2, 1}, 2}, {[]int{0, 0}, 2}} {
		refusedFire(t, "cannot be done", n, x.state, x.step, api.ErrNone)
	}
	refusedFire(t, "not by what it gives", read(1, "1>2"), []int{0}, 0, api.ErrNone)
}

// S2: whatever the numbers.
func TestFireAnything(t *testing.T) {
	x := dice(1)
	for range 5000 {
		places := 1 + x.roll(4)
		n, state := x.heaps(places, 1+x.roll(8), 1+x.roll(3)), x.row(places, 1+x.roll(10))
		step := x.roll(len(n.Takes))
		want, can := done(n, state, step)
		got, e := cover.Fire(n, state, step)
		if can && (e != api.OK || !slices.Equal(got, want)) || !can && (e != api.ErrNone || len(got) > 0) {
			t.Fatal(n, state, step, got, e, want, can)
		}
	}
}

// S3, by hand.
func TestCover(t *testing.T) {
	for _, x := range []struct {
		name, steps string
		state, goal string
		can         bool
	}{
		{"the example", "10>02 01>10", "1 0", "5 5", true},
		{"all that may be asked", "10>02 01>10", "1 0", "10 10", true},
		{"with nothing", "10>02 01>10", "0 0", "1 0", false},
		{"with nothing, the other heap", "10>02 01>10", "0 0", "0 1", false},
		{"nothing with nothing", "10>02 01>10", "0 0", "0 0", true},
		{"itself", "11>00", "3 4", "3 4", true},
		{"less", "11>00", "3 4", "2 4", true},
		{"more", "11>00", "3 4", "3 5", false},
		{"no steps", "", "3 4", "3 4", true},
		{"no steps, more", "", "3 4", "4 4", false},
		{"no steps, the last heap", "", "3 4", "3 5", false},
		{"no use", "00>00 11>11 20>20", "10 10", "10 10", true},
		{"to and fro", "10>01 01>10", "5 5", "10 0", true},
		{"to and fro, not more", "10>01 01>10", "5 5", "10 1", false},
		{"to and fro, not both", "10>01 01>10", "5 5", "6 5", false},
		{"from nothing", "00>10", "0 0", "10 0", true},
		{"from nothing, the other heap", "00>10", "0 10", "10 10", true},
		{"one heap alone", "00>10", "10 0", "0 1", false},
		{"only what is there first", "10>12", "1 0", "1 10", true},
		{"not without", "10>12", "0 0", "0 1", false},
		{"not enough of it", "20>22", "1 10", "0 10", true},
		{"not enough of it for more", "20>22", "1 9", "0 10", false},
		{"two halves are one", "20>01", "10 0", "0 5", true},
		{"two halves are not two", "20>01", "10 0", "0 6", false},
		{"one stays", "20>01", "9 0", "1 4", true},
		{"one and not two", "20>01", "9 0", "2 4", false},
		{"in turns", "100>010 010>001 001>200", "1 0 0", "10 10 10", true},
		{"in turns, but lost", "100>010 010>001 002>100", "2 0 0", "0 0 2", true},
		{"in turns, but lost, more", "100>010 010>001 002>100", "2 0 0", "0 0 3", false},
		{"a guard", "1010>1001 0101>0120", "1 0 1 0", "0 0 5 0", false},
		{"a guard who goes round", "1010>1001 1000>0100 0101>0120 0100>1000", "1 0 1 0", "0 0 10 10", true},
		{"a guard who goes once", "1010>1001 1000>0100 0101>0120", "1 0 5 0", "0 0 10 0", true},
		{"a guard who goes once, not back", "1010>1001 1000>0100 0101>0120", "1 0 5 0", "1 0 6 0", false},
		{"one heap", "1>2", "1", "10", true},
		{"one heap, nothing there", "1>2", "0", "1", false},
		{"one heap, too little there", "2>2 2>1 1>0", "10", "10", true},
		{"none by three", "1110>0002 0002>1110", "1 1 1 0", "1 0 0 1", false},
	} {
		n := read(len(row(x.state)), x.steps)
		c := holdCover(t, n, row(x.state), row(x.goal))
		if c.Can != x.can {
			t.Error(x.name, c)
		}
	}
}

// S3: no steps, where the state covers the goal already; the goal alone bars, where there are no steps.
func TestCoverAtOnce(t *testing.T) {
	x := dice(2)
	for range 300 {
		places := 1 + x.roll(4)
		n, goal := x.heaps(places, x.roll(9), 2), x.row(places, 10)
		if c := holdCover(t, n, slices.Repeat([]int{10}, places), goal); !c.Can {
			t.Fatal(n, goal, c)
		}
		none := api.Heaps{Places: places}
		state := x.row(places, 10)
		if c := holdCover(t, none, state, goal); c.Can != covers(state, goal) || len(c.Steps) > 0 {
			t.Fatal(state, goal, c)
		}
	}
}

// S3: all small ones of two heaps and two steps.
func TestCoverAllSmall(t *testing.T) {
	for code := range 6561 {
		n := wide(2, 2, 0)
		sides := slices.Concat(n.Takes, n.Gives)
		for i, rest := 0, code; i < 8; i, rest = i+1, rest/3 {
			sides[i/2][i%2] = rest % 3
		}
		for _, state := range [][]int{{1, 0}, {1, 1}, {2, 3}} {
			for _, goal := range [][]int{{0, 2}, {3, 1}, {4, 4}} {
				holdCover(t, n, state, goal)
			}
			holdBound(t, n, state, 100)
		}
	}
}

// S3: whatever the numbers. Both answers come up.
func TestCoverAnything(t *testing.T) {
	x := dice(3)
	count := map[bool]int{}
	for range 4000 {
		places := 1 + x.roll(4)
		n := x.heaps(places, x.roll(9), 1+x.roll(3))
		c := holdCover(t, n, x.row(places, 1+x.roll(4)), x.row(places, 1+x.roll(6)))
		count[c.Can]++
	}
	if count[true] < 500 || count[false] < 500 {
		t.Error(count)
	}
}

// S3: where many states bar, some with numbers above 400; wherever the heaps stand.
func TestCoverByMany(t *testing.T) {
	n := read(4, "2002>0201 2210>0002 2101>0020 2200>0010")
	for by := range 4 {
		c := holdCover(t, turnedHeaps(n, by), turned(row("2 7 8 8"), by), row("10 10 10 10"))
		if c.Can || slices.Max(slices.Concat(c.Bars...)) < 400 || len(c.Bars) < 5000 {
			t.Error(by, c.Can, len(c.Bars))
		}
	}
	n = read(4, "0222>1000 0022>0100 0002>0010")
	if c := holdCover(t, n, row("9 9 9 9"), row("10 10 10 10")); c.Can || len(c.Bars) < 10000 {
		t.Error(c.Can, len(c.Bars))
	}
}

// S3: where it takes hundreds of steps.
func TestCoverByLongWays(t *testing.T) {
	n := read(4, "1120>1002 2201>0020 1010>0210 0111>1020 2122>0211 2110>1110")
	for by := range 4 {
		c := holdCover(t, turnedHeaps(n, by), turned(row("0 1 1 2"), by), turned(row("10 9 10 10"), by))
		if !c.Can || len(c.Steps) < 100 {
			t.Error(by, c)
		}
	}
}

// S3: where that takes the most that is known of: no judge looks at all of it.
func TestCoverTightest(t *testing.T) {
	n := read(4, "0210>1010 2020>0001 0021>1001 2200>0210 2022>0100 1002>2000 1202>0111 0011>1000")
	state, goal := row("5 8 6 1"), row("10 10 10 10")
	c, e := cover.Cover(n, state, goal)
	if e != api.OK || c.Can || len(c.Steps) > 0 || len(c.Bars) < 20000 {
		t.Fatal(c.Can, len(c.Steps), len(c.Bars), e)
	}
	if !coversOne(goal, c.Bars) || coversOne(state, c.Bars) {
		t.Error("the goal is not barred, or the state is")
	}
	x := dice(4)
	for range 2000 {
		if b := c.Bars[x.roll(len(c.Bars))]; !coversOne(least(n, b, x.roll(8)), c.Bars) {
			t.Error("a step leads to a bar:", b)
		}
	}
}

// S4, by hand.
func TestBound(t *testing.T) {
	for _, x := range []struct {
		name, steps, state string
		bounded            bool
	}{
		{"the example", "10>02 01>10", "1 0", false},
		{"the example, the other heap", "10>02 01>10", "0 1", false},
		{"with nothing", "10>02 01>10", "0 0", true},
		{"no steps", "", "10 10", true},
		{"no use", "00>00 11>11 20>20", "10 10", true},
		{"to and fro", "10>01 01>10", "5 5", true},
		{"all is taken", "10>00 01>00 22>00", "10 10", true},
		{"from nothing", "00>10", "0 0", false},
		{"from nothing, the last heap", "0000>0001", "0 0 0 0", false},
		{"two and one", "20>12 01>10", "2 0", false},
		{"two and not one", "20>12 01>10", "1 0", true},
		{"one heap", "1>2", "1", false},
		{"one heap, nothing there", "1>2", "0", true},
		{"one heap, not enough", "2>2 2>1 1>0", "10", true},
		{"one heap, two there", "2>1 1>2", "1", false},
		{"as much again", "11>20 20>11", "1 1", true},
		{"down and up, one less", "1000>0200 0100>0020 0010>0002", "10 10 10 10", true},
		{"round", "1000>0200 0100>0020 0010>0002 0001>1000", "1 0 0 0", false},
		{"round, with a loss", "1000>0200 0100>0020 0022>1000", "1 0 0 0", true},
		{"only behind another step", "1000>0100 0100>0110", "1 0 0 0", false},
		{"only behind what cannot be done", "2000>0100 0100>0110", "1 0 0 0", true},
		{"by three", "100>010 010>001 001>110", "1 0 0", false},
		{"all at one, one at all", "111>200 100>011", "1 1 1", true},
	} {
		n := read(len(row(x.state)), x.steps)
		if p := holdBound(t, n, row(x.state), 200000); p.Bounded != x.bounded {
			t.Error(x.name, p)
		}
	}
}

// S4: whatever the numbers. Both answers come up.
func TestBoundAnything(t *testing.T) {
	x := dice(5)
	count := map[bool]int{}
	for range 4000 {
		places := 1 + x.roll(4)
		n := x.heaps(places, x.roll(9), 1+x.roll(3))
		p := holdBound(t, n, x.row(places, 1+x.roll(4)), 200000)
		count[p.Bounded]++
	}
	if count[true] < 500 || count[false] < 500 {
		t.Error(count)
	}
}

// S4: bounded, as all is worth no more behind any step; with all that a state may have.
func TestBoundByWorth(t *testing.T) {
	for _, steps := range []string{
		"1000>0222 0100>0022 0010>0002",
		"1000>0222 0100>0022 0010>0002 0001>0000",
		"1000>0222 0100>0022 0010>0002 0222>1000 0022>0100 0002>0010",
		"1000>0100 0100>0010 0010>0001 0001>1000 1100>0011 0011>1100 2000>0020 0200>0002",
	} {
		for by := range 2 {
			p, e := cover.Bound(turnedHeaps(read(4, steps), 3*by), row("10 10 10 10"))
			if !p.Bounded || len(p.First)+len(p.Again) > 0 || e != api.OK {
				t.Error(steps, by, p, e)
			}
		}
	}
}

// S4: where that takes the most that is known of.
func TestBoundTightest(t *testing.T) {
	n := read(4, "1110>0210 1012>2210 1020>1002 0120>2211 0002>2110 2010>1201 1011>1210 1202>0011")
	if p := holdBound(t, n, row("6 0 10 9"), 5000000); !p.Bounded {
		t.Error(p)
	}
}

// S3, S4 together: where there is no bound, all that Again leaves more of can be covered, however much.
func TestTogether(t *testing.T) {
	x := dice(6)
	pumps := 0
	for range 600 {
		places := 1 + x.roll(4)
		n, state := x.heaps(places, 1+x.roll(8), 2), x.row(places, 3)
		p := holdBound(t, n, state, 200000)
		if p.Bounded {
			continue
		}
		pumps++
		from, _ := allDone(n, state, p.First)
		end, _ := allDone(n, from, p.Again)
		goal := make([]int, places)
		for i := range goal {
			goal[i] = min(from[i], 10)
			if end[i] > from[i] {
				goal[i] = 10
			}
		}
		if c := holdCover(t, n, state, goal); !c.Can {
			t.Fatal(n, state, goal, p, c)
		}
	}
	if pumps < 100 {
		t.Error(pumps)
	}
}

// roomy puts something behind the length of each list.
func roomy(n api.Heaps) api.Heaps {
	n = copied(n)
	for _, l := range []*[][]int{&n.Takes, &n.Gives} {
		for i, r := range *l {
			(*l)[i] = append(r, 77)[:len(r)]
		}
		*l = append(*l, []int{77})[:len(*l)]
	}
	return n
}

func roomyRow(l []int) []int { return append(slices.Clone(l), 77)[:len(l)] }

// whole is all that lies in its lists, also behind their lengths.
func whole(n api.Heaps, states ...[]int) string {
	out := fmt.Sprint(n, n.Takes[:cap(n.Takes)], n.Gives[:cap(n.Gives)])
	for _, r := range slices.Concat(n.Takes, n.Gives, states) {
		out += fmt.Sprint(r[:cap(r)])
	}
	return out
}

// spoil writes over all that was answered, also behind lengths, and looks whether the lists hold each other's.
func spoil(t *testing.T, lists ...[]int) {
	t.Helper()
	for i, r := range lists {
		for j := range r[:cap(r)] {
			r[:cap(r)][j] = -1000 - i
		}
	}
	for i, r := range lists {
		for j := range r[:cap(r)] {
			if r[:cap(r)][j] != -1000-i {
				t.Fatal("lists share memory")
			}
		}
	}
}

// Lists that come in are neither changed nor kept, and what comes out is new.
func TestMemory(t *testing.T) {
	x := dice(7)
	for range 500 {
		places := 1 + x.roll(4)
		n := roomy(x.heaps(places, 1+x.roll(8), 2))
		state, goal := roomyRow(x.row(places, 4)), roomyRow(x.row(places, 6))
		before := whole(n, state, goal)
		cover.Check(n)
		for range 2 {
			fired, _ := cover.Fire(n, state, 0)
			c := holdCover(t, n, state, goal)
			p := holdBound(t, n, state, 200000)
			spoil(t, append([][]int{fired, c.Steps, p.First, p.Again}, c.Bars...)...)
			clear(c.Bars[:cap(c.Bars)])
			if whole(n, state, goal) != before {
				t.Fatal("changed:", n, state, goal)
			}
		}
	}
}

package safra_test

import (
	"reflect"
	"slices"
	"testing"

	"evermore/api"
	"evermore/safra"
)

// ring has so many states, one behind the other, by each letter; all marks are the same but the one of a state.
func ring(letters, states, mark, at, other int) api.Det {
	d := api.Det{Letters: letters}
	for s := range states {
		d.Next = append(d.Next, slices.Repeat([]int{(s + 1) % states}, letters))
		d.Mark = append(d.Mark, mark)
	}
	d.Mark[at] = other
	return d
}

// lastLetter is in the state of the last letter.
func lastLetter(marks ...int) api.Det {
	d := api.Det{Letters: len(marks), Mark: marks}
	for range marks {
		var row []int
		for l := range marks {
			row = append(row, l)
		}
		d.Next = append(d.Next, row)
	}
	return d
}

// often accepts where a letter comes again and again.
func often(letters, letter int) api.Auto {
	a := api.Auto{Letters: letters, States: 2, Start: []int{0}, Final: []int{1}}
	for s := range 2 {
		for l := range letters {
			to := 0
			if l == letter {
				to = 1
			}
			a.Steps = append(a.Steps, api.Step{From: s, Letter: l, To: to})
		}
	}
	return a
}

// atLast accepts where from some place on there is one letter alone: it must be guessed where.
func atLast(letters, letter int) api.Auto {
	a := api.Auto{Letters: letters, States: 2, Start: []int{0}, Final: []int{1}}
	for l := range letters {
		a.Steps = append(a.Steps, api.Step{From: 0, Letter: l, To: 0})
		if l == letter {
			a.Steps = append(a.Steps, api.Step{From: 0, Letter: l, To: 1})
		}
	}
	a.Steps = append(a.Steps, api.Step{From: 1, Letter: letter, To: 1})
	return a
}

// I1, in the order of its errors.
func TestCheck(t *testing.T) {
	right := func() api.Det {
		return api.Det{Letters: 2, Start: 1, Next: [][]int{{0, 1}, {2, 0}, {2, 2}}, Mark: []int{0, 9, 4}}
	}
	for _, x := range []struct {
		name   string
		change func(*api.Det)
		want   api.Errno
	}{
		{"right", func(d *api.Det) {}, api.OK},
		{"one state", func(d *api.Det) { *d = api.Det{Letters: 1, Next: [][]int{{0}}, Mark: []int{0}} }, api.OK},
		{"the last state is the start", func(d *api.Det) { d.Start = 2 }, api.OK},
		{"zero", func(d *api.Det) { *d = api.Det{} }, api.ErrRange},
		{"no letters", func(d *api.Det) { d.Letters = 0 }, api.ErrRange},
		{"fewer than no letters", func(d *api.Det) { d.Letters = -2 }, api.ErrRange},
		{"five letters", func(d *api.Det) { d.Letters = 5 }, api.ErrRange},
		{"letters ahead of size", func(d *api.Det) { *d = api.Det{Letters: 5} }, api.ErrRange},
		{"no states", func(d *api.Det) { d.Next = nil }, api.ErrSize},
		{"size ahead of shape", func(d *api.Det) { d.Next = [][]int{} }, api.ErrSize},
		{"a mark too few", func(d *api.Det) { d.Mark = d.Mark[:2] }, api.ErrShape},
		{"a mark too many", func(d *api.Det) { d.Mark = append(d.Mark, 1) }, api.ErrShape},
		{"no marks", func(d *api.Det) { d.Mark = nil }, api.ErrShape},
		{"a row too short", func(d *api.Det) { d.Next[2] = []int{1} }, api.ErrShape},
		{"a row too long", func(d *api.Det) { d.Next[0] = []int{1, 1, 1} }, api.ErrShape},
		{"an empty row", func(d *api.Det) { d.Next[1] = nil }, api.ErrShape},
		{"fewer letters than in rows", func(d *api.Det) { d.Letters = 1 }, api.ErrShape},
		{"shape ahead of a number", func(d *api.Det) { d.Next[0][0], d.Next[2] = -1, nil }, api.ErrShape},
		{"shape ahead of the start", func(d *api.Det) { d.Start, d.Next[2] = 3, nil }, api.ErrShape},
		{"shape ahead of a mark", func(d *api.Det) { d.Mark = []int{10} }, api.ErrShape},
		{"leads beyond", func(d *api.Det) { d.Next[2][1] = 3 }, api.ErrRange},
		{"leads below", func(d *api.Det) { d.Next[0][0] = -1 }, api.ErrRange},
		{"starts beyond", func(d *api.Det) { d.Start = 3 }, api.ErrRange},
		{"starts below", func(d *api.Det) { d.Start = -1 }, api.ErrRange},
		{"starts far beyond", func(d *api.Det) { d.Start = 1 << 62 }, api.ErrRange},
		{"a mark beyond", func(d *api.Det) { d.Mark[1] = 10 }, api.ErrRange},
		{"a mark below", func(d *api.Det) { d.Mark[2] = -1 }, api.ErrRange},
		{"an even mark below", func(d *api.Det) { d.Mark[0] = -2 }, api.ErrRange},
		{"size ahead of all but letters", func(d *api.Det) { *d = api.Det{Letters: 4, Start: -1, Next: make([][]int, 20001)} }, api.ErrSize},
	} {
		d := right()
		x.change(&d)
		if e := safra.Check(d); e != x.want {
			t.Errorf("%s: %v, not %v", x.name, e, x.want)
		}
		if x.want == api.OK {
			continue
		}
		for _, l := range []api.Lasso{{}, {Loop: []int{0}}, {Head: []int{9}, Loop: make([]int, 61)}} {
			if is, e := safra.Accepts(d, l); is || e != x.want {
				t.Errorf("%s: Accepts: %v, %v, not %v", x.name, is, e, x.want)
			}
		}
	}
}

// I1: MaxSafra.
func TestCheckSize(t *testing.T) {
	for _, x := range []struct {
		states int
		want   api.Errno
	}{{3001, api.OK}, {20000, api.OK}, {20001, api.ErrSize}, {50000, api.ErrSize}} {
		if e := safra.Check(ring(4, x.states, 9, 0, 0)); e != x.want {
			t.Error(x, e)
		}
	}
}

// I1, by hand.
func TestAcceptsByHand(t *testing.T) {
	again := lastLetter(1, 0)
	three := lastLetter(4, 3, 9, 2)
	// the letter 1 leads from the state with the mark 0 for ever
	once := api.Det{Letters: 2, Next: [][]int{{0, 1}, {1, 1}}, Mark: []int{0, 1}}
	turned := once
	turned.Mark = []int{1, 0}
	two := ring(1, 2, 3, 1, 2)
	for _, x := range []struct {
		name string
		d    api.Det
		l    api.Lasso
		is   bool
	}{
		{"1 again and again", again, api.Lasso{Loop: []int{0, 1}}, true},
		{"1 in the head alone", again, api.Lasso{Head: []int{1, 1}, Loop: []int{0}}, false},
		{"1 always", again, api.Lasso{Head: []int{0}, Loop: []int{1}}, true},
		{"the last of the loop", again, api.Lasso{Loop: []int{0, 0, 0, 1}}, true},
		{"the first of the loop", again, api.Lasso{Loop: []int{1, 0, 0, 0}}, true},
		{"the least is even", three, api.Lasso{Loop: []int{0, 1, 2, 3}}, true},
		{"the least is odd, the first one even", three, api.Lasso{Loop: []int{0, 1, 2}}, false},
		{"the greatest is odd", three, api.Lasso{Loop: []int{2, 0}}, true},
		{"odd alone", three, api.Lasso{Head: []int{0, 3}, Loop: []int{2}}, false},
		{"even alone", three, api.Lasso{Head: []int{1, 2}, Loop: []int{0}}, true},
		{"the start counts when it comes again", once, api.Lasso{Loop: []int{0}}, true},
		{"the start does not count when it is left", once, api.Lasso{Loop: []int{1}}, false},
		{"left late", once, api.Lasso{Head: []int{0, 0, 0, 0}, Loop: []int{0, 1}}, false},
		{"left late for what is better", turned, api.Lasso{Head: []int{0, 0, 0, 0}, Loop: []int{0, 0, 1}}, true},
		{"not left", turned, api.Lasso{Head: []int{0, 0, 0, 0}, Loop: []int{0}}, false},
		{"it takes two loops", two, api.Lasso{Loop: []int{0}}, true},
		{"it takes two loops, and a head", two, api.Lasso{Head: []int{0}, Loop: []int{0, 0, 0}}, true},
	} {
		if is, e := safra.Accepts(x.d, x.l); is != x.is || e != api.OK {
			t.Errorf("%s: %v, %v", x.name, is, e)
		}
	}
}

// I1: behind Check's errors what Lasso (A1) says.
func TestAcceptsRefuses(t *testing.T) {
	d := lastLetter(0, 0)
	for _, x := range []struct {
		name string
		l    api.Lasso
		want api.Errno
	}{
		{"the longest", api.Lasso{Head: make([]int, 60), Loop: make([]int, 60)}, api.OK},
		{"no head", api.Lasso{Loop: []int{1}}, api.OK},
		{"no loop", api.Lasso{Head: []int{1}}, api.ErrSize},
		{"nothing", api.Lasso{}, api.ErrSize},
		{"a head too long", api.Lasso{Head: make([]int, 61), Loop: []int{2}}, api.ErrSize},
		{"a loop too long", api.Lasso{Loop: make([]int, 61)}, api.ErrSize},
		{"no letter in the head", api.Lasso{Head: []int{0, 2}, Loop: make([]int, 61)}, api.ErrRange},
		{"no letter in the head, no loop", api.Lasso{Head: []int{-1}}, api.ErrRange},
		{"no letter in the loop", api.Lasso{Loop: []int{0, 2}}, api.ErrRange},
		{"a letter below", api.Lasso{Loop: []int{-1}}, api.ErrRange},
	} {
		if is, e := safra.Accepts(d, x.l); e != x.want || is != (e == api.OK) {
			t.Errorf("%s: %v, %v, not %v", x.name, is, e, x.want)
		}
	}
}

// longRun goes so far that all states that come again and again have come, and then as far again.
func longRun(d api.Det, l api.Lasso) bool {
	s := d.Start
	for _, x := range l.Head {
		s = d.Next[s][x]
	}
	least := 10
	for round := range 2 * len(d.Next) {
		for _, x := range l.Loop {
			s = d.Next[s][x]
			if round >= len(d.Next) {
				least = min(least, d.Mark[s])
			}
		}
	}
	return least%2 == 0
}

func (x *dice) det(letters, states int) api.Det {
	d := api.Det{Letters: letters, Start: x.roll(states)}
	for range states {
		row := make([]int, letters)
		for l := range row {
			row[l] = x.roll(states)
		}
		d.Next = append(d.Next, row)
		d.Mark = append(d.Mark, x.roll(10))
	}
	return d
}

func TestAcceptsOfMany(t *testing.T) {
	x, many := dice(1), 0
	for i := range 20000 {
		d := x.det(1+i%4, 1+x.roll(20))
		l := x.lasso(d.Letters, 5, 5)
		is, e := safra.Accepts(d, l)
		if is != longRun(d, l) || e != api.OK {
			t.Fatal(d, l, is, e)
		}
		if is {
			many++
		}
	}
	if many < 5000 || many > 15000 {
		t.Error("nearly all are the same:", many)
	}
}

// I1: it comes to all states again, 59 letters at a time, or to a part of them alone.
func TestAcceptsOfLargest(t *testing.T) {
	for _, x := range []struct {
		at, loop int
		is       bool
	}{{0, 59, true}, {19999, 59, true}, {777, 60, true}, {1, 1, true}} {
		d := ring(4, 20000, 9, x.at, 8)
		if is, e := safra.Accepts(d, api.Lasso{Head: []int{3}, Loop: make([]int, x.loop)}); is != x.is || e != api.OK {
			t.Error(x, is, e)
		}
	}
	// the long way to where it stays: the mark 0 is left behind
	d := ring(1, 20000, 0, 19999, 3)
	d.Next[19999][0] = 19999
	if is, e := safra.Accepts(d, api.Lasso{Loop: []int{0}}); is || e != api.OK {
		t.Error(is, e)
	}
}

// checkMade holds Det and Other against what an automaton accepts.
func checkMade(t *testing.T, a api.Auto, all []sample) (taken, left int) {
	t.Helper()
	d, e := safra.Det(a)
	o, f := safra.Other(a)
	if e != api.OK || f != api.OK || safra.Check(d) != api.OK || safra.Check(o) != api.OK || d.Letters != a.Letters || o.Letters != a.Letters {
		t.Fatalf("%v: %v, %v, %v, %v", a, d, e, o, f)
	}
	for _, u := range all {
		for _, v := range all[1:] {
			want, l := forEver(a, u.does[0], v.does[0]), api.Lasso{Head: u.word, Loop: v.word}
			is, e := safra.Accepts(d, l)
			not, f := safra.Accepts(o, l)
			if is != want || not == want || e != api.OK || f != api.OK {
				t.Fatalf("%v: at %v it is %v; Det: %v, %v; Other: %v, %v", a, l, want, is, e, not, f)
			}
			if want {
				taken++
			} else {
				left++
			}
		}
	}
	return taken, left
}

// I2: all of the smallest ones.
func TestMadeOfSmall(t *testing.T) {
	see := func(a api.Auto) {
		all, _ := samples(a, a, 20)
		checkMade(t, a, all)
	}
	for letters := 1; letters <= 4; letters++ {
		small(letters, 1, see)
	}
	small(1, 2, see)
	small(2, 2, see)
	small(1, 3, see)
}

// I2: what words do to four states is seldom little: the first words alone are looked at.
func TestMadeOfMany(t *testing.T) {
	x, taken, left := dice(2), 0, 0
	for i := range 1200 {
		a := x.auto(1+i%4, 3+x.roll(2), 15+x.roll(40))
		all, _ := samples(a, a, 30)
		n, m := checkMade(t, a, all)
		taken, left = taken+n, left+m
	}
	if taken < left/5 || left < taken/5 {
		t.Error("nearly all are the same:", taken, left)
	}
}

// I2: long lassos.
func TestMadeOfLong(t *testing.T) {
	x := dice(3)
	for i := range 600 {
		a := x.auto(2+i%3, 4, 20+x.roll(20))
		d, e := safra.Det(a)
		o, f := safra.Other(a)
		if e != api.OK || f != api.OK {
			t.Fatal(a, e, f)
		}
		for range 100 {
			l := x.lasso(a.Letters, 60, 60)
			want := accepted(a, l)
			is, _ := safra.Accepts(d, l)
			not, _ := safra.Accepts(o, l)
			if is != want || not == want {
				t.Fatal(a, l, want, is, not)
			}
		}
	}
}

// I2, by hand: four letters, four states, of which each letter moves some, and brings some through Final.
func TestMadeByHand(t *testing.T) {
	none, all := full(4, 4), full(4, 4)
	none.Final = nil
	noStart := full(4, 4)
	noStart.Start = nil
	oneFinal := full(4, 4)
	oneFinal.Final = []int{3}
	noSteps := full(4, 4)
	noSteps.Steps = nil
	// all states change places; two of them meet, or one is left out; one alone is of Final
	mixed := api.Auto{Letters: 4, States: 4, Start: []int{0, 1, 2, 3}, Final: []int{0}, Steps: []api.Step{
		{From: 0, Letter: 0, To: 1}, {From: 0, Letter: 1, To: 1}, {From: 0, Letter: 2, To: 0}, {From: 0, Letter: 2, To: 1},
		{From: 1, Letter: 0, To: 2}, {From: 1, Letter: 1, To: 0}, {From: 1, Letter: 2, To: 1}, {From: 1, Letter: 3, To: 1},
		{From: 2, Letter: 0, To: 3}, {From: 2, Letter: 1, To: 2}, {From: 2, Letter: 2, To: 2}, {From: 2, Letter: 3, To: 2},
		{From: 3, Letter: 0, To: 0}, {From: 3, Letter: 1, To: 3}, {From: 3, Letter: 2, To: 3}, {From: 3, Letter: 3, To: 3}}}
	for _, a := range []api.Auto{none, all, noStart, oneFinal, noSteps, mixed, often(4, 2), atLast(4, 2), atLast(2, 1), often(2, 0)} {
		row, _ := samples(a, a, 60)
		checkMade(t, a, row)
	}
	d, _ := safra.Det(mixed)
	if len(d.Next) < 100 {
		t.Error("an automaton that needs many states has few:", len(d.Next))
	}
}

// wrong are automata that G1 refuses, and what it says of them.
func wrong() map[string]struct {
	a    api.Auto
	want api.Errno
} {
	bad := func(want api.Errno, change func(*api.Auto)) struct {
		a    api.Auto
		want api.Errno
	} {
		a := full(2, 3)
		change(&a)
		return struct {
			a    api.Auto
			want api.Errno
		}{a, want}
	}
	return map[string]struct {
		a    api.Auto
		want api.Errno
	}{
		"zero":                   {api.Auto{}, api.ErrRange},
		"five letters":           bad(api.ErrRange, func(a *api.Auto) { a.Letters = 5 }),
		"no states":              bad(api.ErrSize, func(a *api.Auto) { a.States = 0 }),
		"301 states":             bad(api.ErrSize, func(a *api.Auto) { a.States = 301 }),
		"starts beyond":          bad(api.ErrRange, func(a *api.Auto) { a.Start = []int{3} }),
		"final below":            bad(api.ErrRange, func(a *api.Auto) { a.Final = []int{-1} }),
		"a letter beyond":        bad(api.ErrRange, func(a *api.Auto) { a.Steps[7].Letter = 2 }),
		"start falls":            bad(api.ErrShape, func(a *api.Auto) { a.Start = []int{1, 0} }),
		"a step twice":           bad(api.ErrShape, func(a *api.Auto) { a.Steps[1] = a.Steps[0] }),
		"a number ahead of size": bad(api.ErrRange, func(a *api.Auto) { a.States = 9; a.Start = []int{9} }),
		"shape ahead of size":    bad(api.ErrShape, func(a *api.Auto) { a.States = 9; a.Start = []int{8, 8} }),
	}
}

// I2: G1's error, then ErrSize; nothing beside it.
func TestMadeRefuses(t *testing.T) {
	refuse := func(name string, a api.Auto, want api.Errno) {
		t.Helper()
		for call, made := range map[string]func(api.Auto) (api.Det, api.Errno){"Det": safra.Det, "Other": safra.Other} {
			if d, e := made(a); e != want || !reflect.DeepEqual(d, api.Det{}) {
				t.Errorf("%s: %s: %v, %v, not %v", name, call, d, e, want)
			}
		}
	}
	for name, x := range wrong() {
		refuse(name, x.a, x.want)
	}
	refuse("five states", full(2, 5), api.ErrSize)
	refuse("five states, and nothing else", api.Auto{Letters: 1, States: 5}, api.ErrSize)
	refuse("300 states", api.Auto{Letters: 4, States: 300}, api.ErrSize)
}

// checkWithin holds Within against what words do to both; it answers what Within says.
func checkWithin(t *testing.T, a, b api.Auto, most int) bool {
	t.Helper()
	l, within, e := safra.Within(a, b)
	if e != api.OK {
		t.Fatal(a, b, e)
	}
	if within && len(l.Head)+len(l.Loop) > 0 {
		t.Fatalf("%v is within %v, but %v", a, b, l)
	}
	if !within && (len(l.Loop) == 0 || len(l.Head) > 20000 || len(l.Loop) > 20000 || !accepted(a, l) || accepted(b, l)) {
		t.Fatalf("%v, %v: %v does not tell them apart", a, b, l)
	}
	all, whole := samples(a, b, most)
	for _, u := range all {
		for _, v := range all[1:] {
			if forEver(a, u.does[0], v.does[0]) && !forEver(b, u.does[1], v.does[1]) {
				if within {
					t.Fatalf("%v is not within %v: %v, %v", a, b, u.word, v.word)
				}
				return within
			}
		}
	}
	if whole && !within {
		t.Fatalf("%v is within %v: what of %v?", a, b, l)
	}
	return within
}

// I3: all pairs of the smallest ones.
func TestWithinOfSmall(t *testing.T) {
	var all []api.Auto
	small(1, 1, func(a api.Auto) { all = append(all, a) })
	small(1, 2, func(a api.Auto) { all = append(all, a) })
	for _, a := range all {
		for _, b := range all {
			checkWithin(t, a, b, 100)
		}
	}
}

func TestWithinOfMany(t *testing.T) {
	x, is, not := dice(4), 0, 0
	for i := range 6000 {
		letters := 1 + i%4
		a, b := x.auto(letters, 1+x.roll(4), 15+x.roll(30)), x.auto(letters, 1+x.roll(4), 20+x.roll(60))
		if checkWithin(t, a, b, 100) {
			is++
		} else {
			not++
		}
	}
	if is < 500 || not < 500 {
		t.Error("nearly all are the same:", is, not)
	}
}

// I3: what accepts more, by a state of Final or a step.
func TestWithinOfMore(t *testing.T) {
	x := dice(5)
	for i := range 1500 {
		a := x.auto(1+i%4, 2+x.roll(3), 15+x.roll(40))
		if !checkWithin(t, a, a, 40) {
			t.Fatal(a)
		}
		more, all := a, full(a.Letters, a.States)
		more.Final = all.Final
		if !checkWithin(t, a, more, 40) {
			t.Fatal(a, more)
		}
		checkWithin(t, more, a, 40)
		more.Final, more.Steps = a.Final, slices.DeleteFunc(slices.Clone(all.Steps), func(s api.Step) bool {
			return !slices.Contains(a.Steps, s) && x.roll(4) > 0
		})
		if !checkWithin(t, a, more, 40) {
			t.Fatal(a, more)
		}
		checkWithin(t, more, a, 40)
	}
}

// I3, by hand.
func TestWithinByHand(t *testing.T) {
	all, none := full(2, 1), full(2, 1)
	none.Start = nil
	for _, x := range []struct {
		name   string
		a, b   api.Auto
		within bool
	}{
		{"none within all", none, all, true},
		{"none within none", none, none, true},
		{"all within all", all, all, true},
		{"all within none", all, none, false},
		{"0 again and again within all", often(2, 0), all, true},
		{"all within 0 again and again", all, often(2, 0), false},
		{"0 at last within 0 again and again", atLast(2, 0), often(2, 0), true},
		{"0 again and again within 0 at last", often(2, 0), atLast(2, 0), false},
		{"0 again and again within 1 again and again", often(2, 0), often(2, 1), false},
		{"0 at last within 1 at last", atLast(2, 0), atLast(2, 1), false},
		{"0 at last within 1 again and again", atLast(2, 0), often(2, 1), false},
		{"all in four states", full(4, 4), full(4, 1), true},
		{"all in one state", full(4, 1), full(4, 4), true},
	} {
		if within := checkWithin(t, x.a, x.b, 200); within != x.within {
			t.Errorf("%s: %v", x.name, within)
		}
	}
	// 0 comes again and again, and ahead of it two letters: a shorter way, or as short a one, misses Final
	a := api.Auto{Letters: 3, States: 4, Start: []int{0}, Final: []int{3}, Steps: []api.Step{
		{From: 0, Letter: 1, To: 1}, {From: 0, Letter: 2, To: 3}, {From: 1, Letter: 1, To: 2}, {From: 2, Letter: 0, To: 0}, {From: 3, Letter: 1, To: 2}}}
	b := api.Auto{Letters: 3, States: 2, Start: []int{0}, Final: []int{1}, Steps: []api.Step{
		{From: 0, Letter: 0, To: 0}, {From: 0, Letter: 1, To: 0}, {From: 0, Letter: 1, To: 1}, {From: 0, Letter: 2, To: 0},
		{From: 0, Letter: 2, To: 1}, {From: 1, Letter: 1, To: 1}, {From: 1, Letter: 2, To: 1}}}
	if checkWithin(t, a, b, 200) {
		t.Error("0 comes again and again")
	}
	l, _, _ := safra.Within(often(2, 0), atLast(2, 0))
	if len(l.Head)+len(l.Loop) > 4 {
		t.Error("a short one would do:", l)
	}
}

// I3: the errors of a, of b, letters, size.
func TestWithinRefuses(t *testing.T) {
	for _, x := range []struct {
		name string
		a, b api.Auto
		want api.Errno
	}{
		{"letters", full(2, 2), full(3, 2), api.ErrShape},
		{"fewer letters of b", full(4, 4), full(1, 4), api.ErrShape},
		{"letters ahead of size", full(2, 5), full(3, 9), api.ErrShape},
		{"five states", full(2, 5), full(2, 1), api.ErrSize},
		{"five states of b", full(2, 1), full(2, 5), api.ErrSize},
		{"300 states of b", full(1, 1), api.Auto{Letters: 1, States: 300}, api.ErrSize},
		{"b's error ahead of letters", full(2, 2), api.Auto{Letters: 3}, api.ErrSize},
		{"b's error ahead of a's size", full(2, 9), api.Auto{Letters: 2, States: 1, Start: []int{1}}, api.ErrRange},
		{"a's error ahead of b's", api.Auto{}, api.Auto{Letters: 1}, api.ErrRange},
		{"a's error ahead of b's, turned", api.Auto{Letters: 1}, api.Auto{}, api.ErrSize},
	} {
		refuseWithin(t, x.name, x.a, x.b, x.want)
	}
	for name, x := range wrong() {
		refuseWithin(t, name, x.a, full(2, 2), x.want)
		refuseWithin(t, name, full(2, 2), x.a, x.want)
		refuseWithin(t, name, full(3, 9), x.a, x.want)
	}
}

func refuseWithin(t *testing.T, name string, a, b api.Auto, want api.Errno) {
	t.Helper()
	if l, within, e := safra.Within(a, b); e != want || within || !reflect.DeepEqual(l, api.Lasso{}) {
		t.Errorf("%s: %v, %v, %v, not %v", name, l, within, e, want)
	}
}

// P3: what is handed in is left as it is, and no two lists of what comes out share memory.
func TestMemory(t *testing.T) {
	roomy := func(row ...int) []int { return append(row, 99, 99)[:len(row)] }
	fresh := func() api.Auto {
		a := atLast(2, 1)
		a.Start, a.Final = roomy(0), roomy(1)
		a.Steps = append(a.Steps, api.Step{From: 99})[:len(a.Steps)]
		return a
	}
	a, l := fresh(), api.Lasso{Head: roomy(0), Loop: roomy(1, 0)}
	d, _ := safra.Det(a)
	o, _ := safra.Other(a)
	kept, _ := safra.Det(a)
	if !reflect.DeepEqual(d, kept) {
		t.Error("Det answers another one the second time")
	}
	safra.Check(d)
	safra.Accepts(d, l)
	out, _, _ := safra.Within(often(2, 1), a)
	safra.Within(a, a)
	if !reflect.DeepEqual(d, kept) {
		t.Error("Accepts changes what is handed in")
	}
	if !reflect.DeepEqual(a, fresh()) || !slices.Equal(a.Start[:3], []int{0, 99, 99}) || !slices.Equal(a.Final[:3], []int{1, 99, 99}) ||
		a.Steps[:len(a.Steps)+1][len(a.Steps)].From != 99 || !slices.Equal(l.Head[:3], []int{0, 99, 99}) || !slices.Equal(l.Loop[:4], []int{1, 0, 99, 99}) {
		t.Error(a, l)
	}
	for _, made := range []api.Det{d, o} {
		for s, row := range made.Next {
			for i := range row {
				row[i] = 1000 + s
			}
			_ = append(row, -7)
		}
		for s, row := range made.Next {
			if row[0] != 1000+s || row[1] != 1000+s {
				t.Error("rows share memory:", made)
			}
		}
		for s := range made.Mark {
			made.Mark[s] = -7
		}
	}
	loop := slices.Clone(out.Loop)
	_ = append(out.Head, -7)
	if !slices.Equal(out.Loop, loop) || !reflect.DeepEqual(a, fresh()) {
		t.Error("memory is shared:", out, a)
	}
	if again, _ := safra.Det(a); !reflect.DeepEqual(again, kept) {
		t.Error("Det keeps what it answered:", again, kept)
	}
}

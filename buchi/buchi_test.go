package buchi_test

import (
	"reflect"
	"slices"
	"testing"

	"evermore/api"
	"evermore/buchi"
)

// auto makes one that starts at 0; a step is its three numbers.
func auto(letters, states int, final []int, steps ...[3]int) api.Auto {
	a := api.Auto{Letters: letters, States: states, Start: []int{0}, Final: final}
	for _, x := range steps {
		a.Steps = append(a.Steps, api.Step{From: x[0], Letter: x[1], To: x[2]})
	}
	return a
}

// often accepts where a letter comes again and again.
func often(letters, letter int) api.Auto {
	a := api.Auto{Letters: letters, States: 2, Start: []int{0}, Final: []int{1}}
	for s := range 2 {
		for l := range letters {
			to := 0
			if l == letter {
				to = 1
			}
			a.Steps = append(a.Steps, api.Step{From: s, Letter: l, To: to})
		}
	}
	return a
}

// full has all steps that there can be.
func full(letters, states int) api.Auto {
	a := api.Auto{Letters: letters, States: states}
	for s := range states {
		a.Start = append(a.Start, s)
		a.Final = append(a.Final, s)
		for l := range letters {
			for t := range states {
				a.Steps = append(a.Steps, api.Step{From: s, Letter: l, To: t})
			}
		}
	}
	return a
}

// line leads by the letter 0 from state to state, and from the last one to the state back; the state final is its
// only one of Final.
func line(states, back, final int) api.Auto {
	a := api.Auto{Letters: 1, States: states, Start: []int{0}, Final: []int{final}}
	for s := range states - 1 {
		a.Steps = append(a.Steps, api.Step{From: s, To: s + 1})
	}
	a.Steps = append(a.Steps, api.Step{From: states - 1, To: back})
	return a
}

// dice is a row of numbers that looks like chance, and is the same each time.
type dice uint32

func (x *dice) roll(n int) int {
	*x = *x*1664525 + 1013904223
	return int(*x>>8) % n
}

func (x *dice) some(below, chance int) []int {
	var out []int
	for s := range below {
		if x.roll(100) < chance {
			out = append(out, s)
		}
	}
	return out
}

// auto has of each hundred steps that there can be so many.
func (x *dice) auto(letters, states, chance int) api.Auto {
	a := api.Auto{Letters: letters, States: states, Start: x.some(states, 40), Final: x.some(states, 30)}
	for s := range states {
		for l := range letters {
			for _, t := range x.some(states, chance) {
				a.Steps = append(a.Steps, api.Step{From: s, Letter: l, To: t})
			}
		}
	}
	return a
}

func (x *dice) word(letters, n int) []int {
	w := make([]int, n)
	for i := range w {
		w[i] = x.roll(letters)
	}
	return w
}

// small calls see with each automaton of so many letters and states.
func small(letters, states int, see func(api.Auto)) {
	all := full(letters, states)
	bits := func(set int) []int {
		return slices.DeleteFunc(slices.Clone(all.Start), func(s int) bool { return set>>s&1 == 0 })
	}
	for steps := range 1 << len(all.Steps) {
		for start := range 1 << states {
			for final := range 1 << states {
				a := api.Auto{Letters: letters, States: states, Start: bits(start), Final: bits(final)}
				for i, x := range all.Steps {
					if steps>>i&1 == 1 {
						a.Steps = append(a.Steps, x)
					}
				}
				see(a)
			}
		}
	}
}

// words answers all words of from one number of letters to another.
func words(letters, from, to int) [][]int {
	var out [][]int
	row := [][]int{{}}
	for n := range to + 1 {
		if n >= from {
			out = append(out, row...)
		}
		var longer [][]int
		for _, w := range row {
			for l := range letters {
				longer = append(longer, append(slices.Clone(w), l))
			}
		}
		row = longer
	}
	return out
}

// lassos answers all with so many letters at most.
func lassos(letters, head, loop int) []api.Lasso {
	var out []api.Lasso
	for _, h := range words(letters, 0, head) {
		for _, l := range words(letters, 1, loop) {
			out = append(out, api.Lasso{Head: h, Loop: l})
		}
	}
	return out
}

// by answers the states that a letter leads to from some.
func by(a api.Auto, from map[int]bool, letter int) map[int]bool {
	out := map[int]bool{}
	for _, x := range a.Steps {
		if x.Letter == letter && from[x.From] {
			out[x.To] = true
		}
	}
	return out
}

// round answers what the loop leads to from a state, and of these what through a state of Final.
func round(a api.Auto, s int, loop []int) (plain, through map[int]bool) {
	plain, through = map[int]bool{s: true}, map[int]bool{}
	for _, l := range loop {
		for t := range plain {
			if slices.Contains(a.Final, t) {
				through[t] = true
			}
		}
		plain, through = by(a, plain, l), by(a, through, l)
	}
	return plain, through
}

// accepted holds whole rounds of the loop against each other: is there, from where the head leads to, a round
// through Final that can be come back to?
func accepted(a api.Auto, l api.Lasso) bool {
	now := map[int]bool{}
	for _, s := range a.Start {
		now[s] = true
	}
	for _, x := range l.Head {
		now = by(a, now, x)
	}
	n := a.States
	leads, through := make([][]bool, n), make([]map[int]bool, n)
	for s := range n {
		leads[s] = make([]bool, n)
		var plain map[int]bool
		plain, through[s] = round(a, s, l.Loop)
		for t := range n {
			leads[s][t] = s == t || plain[t]
		}
	}
	for k := range n {
		for s := range n {
			for t := range n {
				leads[s][t] = leads[s][t] || leads[s][k] && leads[k][t]
			}
		}
	}
	for s := range now {
		for p := range n {
			for t := range through[p] {
				if leads[s][p] && leads[t][p] {
					return true
				}
			}
		}
	}
	return false
}

// comesAgain tells whether a state of Final is come to from Start and from itself.
func comesAgain(a api.Auto) bool {
	n := a.States
	leads := make([][]bool, n)
	for s := range n {
		leads[s] = make([]bool, n)
	}
	for _, x := range a.Steps {
		leads[x.From][x.To] = true
	}
	for k := range n {
		for s := range n {
			for t := range n {
				leads[s][t] = leads[s][t] || leads[s][k] && leads[k][t]
			}
		}
	}
	for _, f := range a.Final {
		for _, s := range a.Start {
			if leads[f][f] && (s == f || leads[s][f]) {
				return true
			}
		}
	}
	return false
}

// G1, in the order of its errors.
func TestCheck(t *testing.T) {
	right := func() api.Auto {
		a := auto(2, 3, []int{1, 2}, [3]int{0, 0, 0}, [3]int{0, 0, 2}, [3]int{0, 1, 0}, [3]int{1, 0, 2}, [3]int{2, 1, 1})
		a.Start = []int{0, 2}
		return a
	}
	for _, x := range []struct {
		name   string
		change func(*api.Auto)
		want   api.Errno
	}{
		{"right", func(a *api.Auto) {}, api.OK},
		{"nothing but a state", func(a *api.Auto) { *a = api.Auto{Letters: 1, States: 1} }, api.OK},
		{"no start", func(a *api.Auto) { a.Start = nil }, api.OK},
		{"no final", func(a *api.Auto) { a.Final = []int{} }, api.OK},
		{"no steps", func(a *api.Auto) { a.Steps = nil }, api.OK},
		{"all are final", func(a *api.Auto) { a.Final = []int{0, 1, 2} }, api.OK},
		{"four letters", func(a *api.Auto) { a.Letters = 4 }, api.OK},
		{"300 states", func(a *api.Auto) { a.States = 300; a.Start = []int{299} }, api.OK},
		{"zero", func(a *api.Auto) { *a = api.Auto{} }, api.ErrRange},
		{"no letters", func(a *api.Auto) { a.Letters = 0 }, api.ErrRange},
		{"fewer than no letters", func(a *api.Auto) { a.Letters = -1 }, api.ErrRange},
		{"five letters", func(a *api.Auto) { a.Letters = 5 }, api.ErrRange},
		{"letters ahead of size", func(a *api.Auto) { *a = api.Auto{Letters: 5} }, api.ErrRange},
		{"no states", func(a *api.Auto) { a.States = 0 }, api.ErrSize},
		{"fewer than no states", func(a *api.Auto) { a.States = -3 }, api.ErrSize},
		{"301 states", func(a *api.Auto) { a.States = 301 }, api.ErrSize},
		{"very many states", func(a *api.Auto) { a.States = 1 << 62 }, api.ErrSize},
		{"size ahead of a number", func(a *api.Auto) { a.States = 301; a.Start = []int{-1} }, api.ErrSize},
		{"size ahead of shape", func(a *api.Auto) { a.States = 301; a.Start = []int{1, 1} }, api.ErrSize},
		{"starts beyond", func(a *api.Auto) { a.Start = []int{0, 3} }, api.ErrRange},
		{"starts below", func(a *api.Auto) { a.Start = []int{-1} }, api.ErrRange},
		{"final beyond", func(a *api.Auto) { a.Final[1] = 3 }, api.ErrRange},
		{"final below", func(a *api.Auto) { a.Final[0] = -1 }, api.ErrRange},
		{"from beyond", func(a *api.Auto) { a.Steps[4].From = 3 }, api.ErrRange},
		{"from below", func(a *api.Auto) { a.Steps[0].From = -1 }, api.ErrRange},
		{"to beyond", func(a *api.Auto) { a.Steps[4].To = 3 }, api.ErrRange},
		{"to below", func(a *api.Auto) { a.Steps[0].To = -1 }, api.ErrRange},
		{"a letter beyond", func(a *api.Auto) { a.Steps[4].Letter = 2 }, api.ErrRange},
		{"a letter that is a state", func(a *api.Auto) { a.Letters = 1 }, api.ErrRange},
		{"a letter below", func(a *api.Auto) { a.Steps[0].Letter = -1 }, api.ErrRange},
		{"a step's number ahead of start's shape", func(a *api.Auto) { a.Start = []int{1, 1}; a.Steps[4].To = 3 }, api.ErrRange},
		{"final's number ahead of start's shape", func(a *api.Auto) { a.Start = []int{2, 0}; a.Final = []int{7} }, api.ErrRange},
		{"start twice", func(a *api.Auto) { a.Start = []int{1, 1} }, api.ErrShape},
		{"start falls", func(a *api.Auto) { a.Start = []int{2, 0} }, api.ErrShape},
		{"very many starts", func(a *api.Auto) { a.Start = make([]int, 50000) }, api.ErrShape},
		{"final twice", func(a *api.Auto) { a.Final = []int{2, 2} }, api.ErrShape},
		{"final falls", func(a *api.Auto) { a.Final = []int{0, 2, 1} }, api.ErrShape},
		{"a step twice", func(a *api.Auto) { a.Steps[1] = a.Steps[0] }, api.ErrShape},
		{"steps fall by from", func(a *api.Auto) { a.Steps[3], a.Steps[4] = a.Steps[4], a.Steps[3] }, api.ErrShape},
		{"steps fall by from, though letters rise", func(a *api.Auto) { a.Steps = []api.Step{{From: 1, Letter: 0, To: 0}, {From: 0, Letter: 1, To: 2}} }, api.ErrShape},
		{"steps fall by letter", func(a *api.Auto) { a.Steps[1], a.Steps[2] = a.Steps[2], a.Steps[1] }, api.ErrShape},
		{"steps fall by letter, though to rises", func(a *api.Auto) { a.Steps = []api.Step{{From: 0, Letter: 1, To: 0}, {From: 0, Letter: 0, To: 2}} }, api.ErrShape},
		{"steps fall by to", func(a *api.Auto) { a.Steps[0], a.Steps[1] = a.Steps[1], a.Steps[0] }, api.ErrShape},
	} {
		a := right()
		x.change(&a)
		if e := buchi.Check(a); e != x.want {
			t.Errorf("%s: %v, not %v", x.name, e, x.want)
		}
		if x.want != api.OK {
			refuseAll(t, x.name, a, x.want)
		}
	}
}

// refuseAll holds the other calls to Check's error, ahead of their own, and to nothing beside it.
func refuseAll(t *testing.T, name string, a api.Auto, want api.Errno) {
	t.Helper()
	other := full(3, 9)
	empty := func(call string, x, e any) {
		t.Helper()
		if !reflect.ValueOf(x).IsZero() || e != want {
			t.Errorf("%s: %s answers %v, %v, not %v", name, call, x, e, want)
		}
	}
	is, e := buchi.Accepts(a, api.Lasso{})
	empty("Accepts", is, e)
	is, e = buchi.Accepts(a, api.Lasso{Head: []int{9}, Loop: make([]int, 61)})
	empty("Accepts", is, e)
	l, is, e := buchi.Some(a)
	empty("Some", l, e)
	empty("Some", is, e)
	for call, join := range map[string]func(a, b api.Auto) (api.Auto, api.Errno){"Either": buchi.Either, "Both": buchi.Both} {
		x, e := join(a, other)
		empty(call, x, e)
		x, e = join(other, a)
		empty(call, x, e)
	}
}

// G1: MaxSteps.
func TestCheckSteps(t *testing.T) {
	a := full(1, 300)
	a.Steps = a.Steps[:40000]
	if e := buchi.Check(a); e != api.OK {
		t.Error(e)
	}
	a = full(1, 300)
	a.Steps = a.Steps[:40001]
	if e := buchi.Check(a); e != api.ErrSize {
		t.Error(e)
	}
	a.Start, a.Steps[7].To = []int{1, 1}, -1
	if e := buchi.Check(a); e != api.ErrSize {
		t.Error(e)
	}
	refuseAll(t, "too many steps", a, api.ErrSize)
}

// G2, by hand.
func TestAcceptsByHand(t *testing.T) {
	again := often(2, 1)
	// from some place on 0 alone: it must be guessed where
	atLast := auto(2, 2, []int{1}, [3]int{0, 0, 0}, [3]int{0, 0, 1}, [3]int{0, 1, 0}, [3]int{1, 0, 1})
	once := auto(2, 2, []int{0}, [3]int{0, 0, 1}, [3]int{1, 0, 1})
	ends := auto(2, 2, []int{0, 1}, [3]int{0, 0, 1})
	none := again
	none.Start = nil
	two := line(2, 0, 1)
	two.Letters = 2
	for _, x := range []struct {
		name string
		a    api.Auto
		l    api.Lasso
		is   bool
	}{
		{"1 again and again", again, api.Lasso{Loop: []int{1, 0}}, true},
		{"1 at the end of the loop", again, api.Lasso{Loop: []int{0, 0, 1}}, true},
		{"1 in the head alone", again, api.Lasso{Head: []int{1, 1}, Loop: []int{0}}, false},
		{"1 always", again, api.Lasso{Head: []int{0}, Loop: []int{1}}, true},
		{"at last 0", atLast, api.Lasso{Head: []int{1, 0, 1}, Loop: []int{0}}, true},
		{"at last 0, at once", atLast, api.Lasso{Loop: []int{0, 0}}, true},
		{"never at last 0", atLast, api.Lasso{Head: []int{0, 0, 0}, Loop: []int{0, 0, 1}}, false},
		{"Final but once", once, api.Lasso{Loop: []int{0}}, false},
		{"steps that end", ends, api.Lasso{Loop: []int{0}}, false},
		{"no start", none, api.Lasso{Loop: []int{1}}, false},
		{"two rounds of the loop", two, api.Lasso{Loop: []int{0}}, true},
		{"two rounds of a loop of three", two, api.Lasso{Head: []int{0}, Loop: []int{0, 0, 0}}, true},
		{"no step by 1", two, api.Lasso{Head: []int{1}, Loop: []int{0}}, false},
		{"all starts", full(4, 3), api.Lasso{Head: []int{3, 2}, Loop: []int{1, 0}}, true},
	} {
		if is, e := buchi.Accepts(x.a, x.l); is != x.is || e != api.OK {
			t.Errorf("%s: %v, %v", x.name, is, e)
		}
	}
}

// G2: what Lasso says, with the automaton's letters, behind Check's.
func TestAcceptsRefuses(t *testing.T) {
	for _, x := range []struct {
		name       string
		head, loop []int
		want       api.Errno
	}{
		{"no loop", []int{0}, nil, api.ErrSize},
		{"nothing", nil, []int{}, api.ErrSize},
		{"60 and 60", make([]int, 60), make([]int, 60), api.OK},
		{"a head of 61", make([]int, 61), []int{0}, api.ErrSize},
		{"a loop of 61", nil, make([]int, 61), api.ErrSize},
		{"no letter in the head", []int{2}, []int{0}, api.ErrRange},
		{"no letter in the loop", nil, []int{0, 2}, api.ErrRange},
		{"below 0", []int{-1}, []int{0}, api.ErrRange},
		{"the head ahead of the loop", []int{2}, nil, api.ErrRange},
		{"the head's size ahead of its letters", append(make([]int, 60), 2), nil, api.ErrSize},
	} {
		l := api.Lasso{Head: x.head, Loop: x.loop}
		if is, e := buchi.Accepts(often(2, 1), l); is || e != x.want {
			t.Errorf("%s: %v, %v, not %v", x.name, is, e, x.want)
		}
		if is, e := buchi.Accepts(often(3, 1), api.Lasso{Loop: []int{2, 1}}); !is || e != api.OK {
			t.Error(is, e)
		}
	}
}

func checkAccepts(t *testing.T, a api.Auto, l api.Lasso) bool {
	t.Helper()
	is, e := buchi.Accepts(a, l)
	if is != accepted(a, l) || e != api.OK {
		t.Fatalf("%v, %v: %v, %v", a, l, is, e)
	}
	return is
}

func TestAcceptsOfSmall(t *testing.T) {
	ones, twos := lassos(1, 1, 2), lassos(2, 1, 2)
	small(1, 2, func(a api.Auto) {
		for _, l := range ones {
			checkAccepts(t, a, l)
		}
	})
	small(1, 3, func(a api.Auto) { checkAccepts(t, a, ones[0]) })
	small(2, 2, func(a api.Auto) {
		for _, l := range twos {
			checkAccepts(t, a, l)
		}
	})
}

func TestAcceptsOfMany(t *testing.T) {
	x, many := dice(1), 0
	for i := range 6000 {
		letters, states := 1+i%4, 1+x.roll(12)
		a := x.auto(letters, states, 100/states+x.roll(15))
		if checkAccepts(t, a, api.Lasso{Head: x.word(letters, x.roll(6)), Loop: x.word(letters, 1+x.roll(6))}) {
			many++
		}
	}
	if many < 1000 || many > 5000 {
		t.Error("nearly all are the same:", many)
	}
}

// G2: the largest.
func TestAcceptsOfLargest(t *testing.T) {
	a := full(1, 200)
	if is, e := buchi.Accepts(a, api.Lasso{Head: make([]int, 60), Loop: make([]int, 60)}); !is || e != api.OK {
		t.Error(is, e)
	}
	// Final is come to from everywhere, and left for ever: each way back must be looked for
	a = api.Auto{Letters: 1, States: 300, Start: []int{0}}
	for s := range 300 {
		a.Final = append(a.Final, s)
		for to := s + 1; to < min(300, s+140); to++ {
			a.Steps = append(a.Steps, api.Step{From: s, To: to})
		}
	}
	if is, e := buchi.Accepts(a, api.Lasso{Head: make([]int, 60), Loop: make([]int, 59)}); is || e != api.OK {
		t.Error(is, e)
	}
	// the longest way: each place of the loop, in each state
	for back := range 2 {
		ring := line(299, back, 298)
		if is, e := buchi.Accepts(ring, api.Lasso{Loop: make([]int, 60)}); !is || e != api.OK {
			t.Error(is, e)
		}
	}
	x := dice(2)
	for range 20 {
		a := x.auto(2, 150, 1)
		checkAccepts(t, a, api.Lasso{Head: x.word(2, 60), Loop: x.word(2, 1+x.roll(60))})
	}
}

func checkSome(t *testing.T, a api.Auto) api.Lasso {
	t.Helper()
	l, is, e := buchi.Some(a)
	if e != api.OK || is != comesAgain(a) {
		t.Fatalf("%v: %v, %v, %v", a, l, is, e)
	}
	if !is && len(l.Head)+len(l.Loop) > 0 {
		t.Fatalf("%v: none, but %v", a, l)
	}
	if is && (len(l.Loop) == 0 || len(l.Head) > 300 || len(l.Loop) > 300 || !accepted(a, l)) {
		t.Fatalf("%v: %v is not accepted", a, l)
	}
	return l
}

// G3.
func TestSomeOfSmall(t *testing.T) {
	small(1, 2, func(a api.Auto) { checkSome(t, a) })
	small(2, 2, func(a api.Auto) { checkSome(t, a) })
	small(1, 3, func(a api.Auto) { checkSome(t, a) })
}

func TestSomeOfMany(t *testing.T) {
	x, many := dice(3), 0
	for i := range 4000 {
		states := 1 + x.roll(14)
		if l := checkSome(t, x.auto(1+i%4, states, 10+x.roll(60)/states)); len(l.Loop) > 0 {
			many++
		}
	}
	if many < 500 || many > 3500 {
		t.Error("nearly all are the same:", many)
	}
}

// G3: heads and loops of as many letters as there can be.
func TestSomeOfLargest(t *testing.T) {
	for _, x := range []struct{ back, final, head, loop int }{
		{0, 0, 0, 300}, {0, 299, 299, 300}, {299, 299, 299, 1}, {150, 200, 200, 150}, {298, 298, 298, 2},
	} {
		l := checkSome(t, line(300, x.back, x.final))
		if len(l.Head) > 300 || len(l.Loop)%x.loop != 0 {
			t.Errorf("%v: %d, %d", x, len(l.Head), len(l.Loop))
		}
	}
	checkSome(t, line(300, 150, 149))
	a := full(1, 300)
	a.Steps = a.Steps[:40000]
	if l, is, e := buchi.Some(a); len(l.Loop) == 0 || !is || e != api.OK {
		t.Error(l, is, e)
	}
	// each state of Final is come to, and none of them comes back
	a.Steps, a.Start = nil, []int{0}
	for s := range 300 {
		for to := s + 1; to < min(300, s+140); to++ {
			a.Steps = append(a.Steps, api.Step{From: s, To: to})
		}
	}
	if l, is, e := buchi.Some(a); len(l.Loop) > 0 || is || e != api.OK {
		t.Error(l, is, e)
	}
}

// G5: where there is none, no lasso is accepted; where one is, Some has one.
func TestSomeIsAny(t *testing.T) {
	all := lassos(2, 2, 3)
	small(2, 2, func(a api.Auto) {
		_, is, e := buchi.Some(a)
		one := slices.ContainsFunc(all, func(l api.Lasso) bool {
			is, _ := buchi.Accepts(a, l)
			return is
		})
		if is != one || e != api.OK {
			t.Fatalf("%v: %v, %v, but %v", a, is, e, one)
		}
	})
}

// checkJoins holds Either and Both against what each of two accepts.
func checkJoins(t *testing.T, a, b api.Auto, all []api.Lasso) {
	t.Helper()
	either, e := buchi.Either(a, b)
	if e != api.OK || buchi.Check(either) != api.OK || either.Letters != a.Letters {
		t.Fatalf("Either of %v, %v: %v, %v", a, b, either, e)
	}
	both, e := buchi.Both(a, b)
	if e != api.OK || buchi.Check(both) != api.OK || both.Letters != a.Letters {
		t.Fatalf("Both of %v, %v: %v, %v", a, b, both, e)
	}
	for _, l := range all {
		x, y := accepted(a, l), accepted(b, l)
		if is, e := buchi.Accepts(either, l); is != (x || y) || e != api.OK {
			t.Fatalf("Either of %v, %v: %v, %v at %v", a, b, is, e, l)
		}
		if is, e := buchi.Accepts(both, l); is != (x && y) || e != api.OK {
			t.Fatalf("Both of %v, %v: %v, %v at %v", a, b, is, e, l)
		}
	}
}

// G4: all pairs of the smallest ones.
func TestJoinsOfSmall(t *testing.T) {
	var all []api.Auto
	small(1, 1, func(a api.Auto) { all = append(all, a) })
	small(1, 2, func(a api.Auto) { all = append(all, a) })
	one := lassos(1, 0, 1)
	for _, a := range all {
		for _, b := range all {
			checkJoins(t, a, b, one)
		}
	}
}

func TestJoinsOfMany(t *testing.T) {
	x := dice(4)
	for i := range 1500 {
		letters := 1 + i%4
		a, b := x.auto(letters, 1+x.roll(8), 10+x.roll(30)), x.auto(letters, 1+x.roll(8), 10+x.roll(30))
		var all []api.Lasso
		for range 6 {
			all = append(all, api.Lasso{Head: x.word(letters, x.roll(4)), Loop: x.word(letters, 1+x.roll(5))})
		}
		checkJoins(t, a, b, all)
	}
}

// G4: each Final comes again and again, but never both at once, nor as often.
func TestJoinsByHand(t *testing.T) {
	for _, l := range []api.Lasso{{Loop: []int{0, 1}}, {Loop: []int{1}}, {Loop: []int{0}}, {Loop: []int{2}}, {Head: []int{0, 1}, Loop: []int{2, 2}},
		{Loop: []int{0, 0, 0, 1}}, {Head: []int{0, 0}, Loop: []int{1, 2}}, {Loop: []int{2, 1, 2, 2, 0, 2}}} {
		checkJoins(t, often(3, 0), often(3, 1), []api.Lasso{l})
	}
	checkJoins(t, line(8, 0, 3), line(7, 0, 6), lassos(1, 1, 1))
	checkJoins(t, line(8, 0, 3), line(8, 0, 6), lassos(1, 1, 1))
	checkJoins(t, line(8, 7, 3), line(8, 0, 6), lassos(1, 1, 1))
}

// G4: the largest that may be joined; none of them may go beyond what Check takes.
func TestJoinsOfLargest(t *testing.T) {
	for letters := 1; letters <= 4; letters++ {
		l := api.Lasso{Head: []int{letters - 1}, Loop: []int{0, letters - 1}}
		checkJoins(t, full(letters, 8), full(letters, 8), []api.Lasso{l})
		a := full(letters, 8)
		a.Final = []int{7}
		checkJoins(t, a, full(letters, 8), []api.Lasso{l})
		a.Final = nil
		checkJoins(t, full(letters, 8), a, []api.Lasso{l})
		a.Start = nil
		checkJoins(t, a, a, []api.Lasso{l})
	}
}

// G4: its errors, behind Check's of a, then of b.
func TestJoinsRefuse(t *testing.T) {
	badRange, badShape := api.Auto{}, api.Auto{Letters: 2, States: 9, Start: []int{1, 0}}
	for _, x := range []struct {
		name string
		a, b api.Auto
		want api.Errno
	}{
		{"eight and eight", full(2, 8), full(2, 8), api.OK},
		{"nine states", full(2, 9), full(2, 1), api.ErrSize},
		{"nine states of b", full(2, 1), full(2, 9), api.ErrSize},
		{"300 states", full(2, 1), api.Auto{Letters: 2, States: 300}, api.ErrSize},
		{"letters", full(2, 1), full(3, 1), api.ErrShape},
		{"letters, fewer of b", full(4, 2), full(1, 2), api.ErrShape},
		{"letters ahead of size", full(2, 9), full(3, 9), api.ErrShape},
		{"a ahead of b", badRange, badShape, api.ErrRange},
		{"b behind a", badShape, badRange, api.ErrShape},
		{"Check of b ahead of letters", full(3, 9), api.Auto{Letters: 2}, api.ErrSize},
	} {
		for call, join := range map[string]func(a, b api.Auto) (api.Auto, api.Errno){"Either": buchi.Either, "Both": buchi.Both} {
			out, e := join(x.a, x.b)
			if e != x.want || e != api.OK && !reflect.DeepEqual(out, api.Auto{}) {
				t.Errorf("%s: %s: %v, %v, not %v", x.name, call, out, e, x.want)
			}
		}
	}
}

// P3: what is handed in is left as it is, and nothing that comes out shares its memory.
func TestMemory(t *testing.T) {
	roomy := func(row ...int) []int { return append(row, 99, 99)[:len(row)] }
	fresh := func() api.Auto {
		a := often(2, 1)
		a.Start, a.Final = roomy(0, 1), roomy(1)
		a.Steps = append(a.Steps, api.Step{From: 99})[:len(a.Steps)]
		return a
	}
	a, l := fresh(), api.Lasso{Head: roomy(0), Loop: roomy(1, 0)}
	check := func(when string) {
		t.Helper()
		if !reflect.DeepEqual(a, fresh()) || !slices.Equal(a.Start[:4], []int{0, 1, 99, 99}) || !slices.Equal(a.Final[:3], []int{1, 99, 99}) ||
			a.Steps[:5][4].From != 99 || !slices.Equal(l.Head[:3], []int{0, 99, 99}) || !slices.Equal(l.Loop[:4], []int{1, 0, 99, 99}) {
			t.Error(when, a, l)
		}
	}
	buchi.Check(a)
	buchi.Accepts(a, l)
	some, _, _ := buchi.Some(a)
	either, _ := buchi.Either(a, a)
	both, _ := buchi.Both(a, a)
	check("asked")
	want, _ := buchi.Both(a, a)
	for _, out := range []api.Auto{either, both} {
		final := slices.Clone(out.Final)
		for i := range out.Start {
			out.Start[i] = -7
		}
		_ = append(out.Start, -7)
		if !slices.Equal(out.Final, final) {
			t.Error("Start and Final share memory:", out)
		}
		for i := range out.Final {
			out.Final[i] = -7
		}
		for i := range out.Steps {
			out.Steps[i].From = -7
		}
	}
	for _, row := range [][]int{some.Head, some.Loop} {
		for i := range row {
			row[i] = -7
		}
	}
	check("written")
	if again, _ := buchi.Both(a, a); !reflect.DeepEqual(again, want) {
		t.Error(again, want)
	}
}

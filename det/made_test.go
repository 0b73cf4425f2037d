package det_test

import (
	"reflect"
	"slices"
	"testing"

	"evermore/api"
	"evermore/det"
)

// wide makes an automaton that need not know its way, and starts at 0; a step is its three numbers.
func wide(letters, states int, final []int, steps ...[3]int) api.Auto {
	a := api.Auto{Letters: letters, States: states, Start: []int{0}, Final: final}
	for _, x := range steps {
		a.Steps = append(a.Steps, api.Step{From: x[0], Letter: x[1], To: x[2]})
	}
	return a
}

// steps makes one of all steps of which keep says so.
func steps(letters, states int, start, final []int, keep func(api.Step) bool) api.Auto {
	a := api.Auto{Letters: letters, States: states, Start: start, Final: final}
	for s := range states {
		for l := range letters {
			for to := range states {
				if x := (api.Step{From: s, Letter: l, To: to}); keep(x) {
					a.Steps = append(a.Steps, x)
				}
			}
		}
	}
	return a
}

func (x *dice) some(below, chance int) []int {
	var out []int
	for s := range below {
		if x.roll(100) < chance {
			out = append(out, s)
		}
	}
	return out
}

// leads goes step by step, from each state that a word's beginning leads to, and tells whether one of Final is come to.
func leads(a api.Auto, s int, w []int) bool {
	if len(w) == 0 {
		return slices.Contains(a.Final, s)
	}
	return slices.ContainsFunc(a.Steps, func(x api.Step) bool {
		return x.From == s && x.Letter == w[0] && leads(a, x.To, w[1:])
	})
}

func checkMade(t *testing.T, a api.Auto, n int) api.Det {
	t.Helper()
	d, e := det.Made(a)
	if e != api.OK || det.Check(d) != api.OK || d.Letters != a.Letters || len(d.Next) != fewest(d) || !numbered(d) {
		t.Fatalf("%v: Made is %v, %v", a, d, e)
	}
	words(a.Letters, n, func(w []int) bool {
		want := slices.ContainsFunc(a.Start, func(s int) bool { return leads(a, s, w) })
		if marked(d, w) != want {
			t.Fatalf("%v: Made is %v: not alike at %v", a, d, w)
		}
		return true
	})
	return d
}

// C6: all of the smallest.
func TestMadeOfSmall(t *testing.T) {
	for letters := 1; letters <= 2; letters++ {
		for set := range 1 << (4*letters + 4) {
			bit := func(i int) bool { return set>>i&1 == 1 }
			pick := func(i int) []int {
				return slices.DeleteFunc([]int{0, 1}, func(s int) bool { return !bit(i + s) })
			}
			a := steps(letters, 2, pick(0), pick(2), func(x api.Step) bool { return bit(4 + x.From + 2*x.To + 4*x.Letter) })
			checkMade(t, a, 4)
		}
	}
}

func TestMadeOfMany(t *testing.T) {
	x := dice(9)
	for i := range 400 {
		letters, states := 1+i%4, 1+x.roll(8)
		chance := 5 + x.roll(35)
		a := steps(letters, states, x.some(states, 40), x.some(states, 30), func(api.Step) bool { return x.roll(100) < chance })
		checkMade(t, a, 5-letters/2)
	}
}

func TestMadeByHand(t *testing.T) {
	endsWith0 := wide(2, 2, []int{1}, [3]int{0, 0, 0}, [3]int{0, 0, 1}, [3]int{0, 1, 0})
	for _, x := range []struct {
		name string
		a    api.Auto
		want api.Det
	}{
		{"ends with 0", endsWith0, lines([]int{0, 1}, []int{1, 0}, []int{1, 0})},
		{"nothing but a state", api.Auto{Letters: 3, States: 1}, lines([]int{0}, []int{0, 0, 0})},
		{"the empty word", wide(1, 1, []int{0}), lines([]int{1, 0}, []int{1}, []int{1})},
		{"no start", api.Auto{Letters: 1, States: 1, Final: []int{0}, Steps: []api.Step{{}}}, lines([]int{0}, []int{0})},
		{"all words", wide(1, 1, []int{0}, [3]int{0, 0, 0}), lines([]int{1}, []int{0})},
		{"all words, by two starts", api.Auto{Letters: 1, States: 2, Start: []int{0, 1}, Final: []int{1}, Steps: []api.Step{{From: 0, To: 1}, {From: 1, To: 0}}}, lines([]int{1}, []int{0})},
	} {
		if d, e := det.Made(x.a); !reflect.DeepEqual(d, x.want) || e != api.OK {
			t.Errorf("%s: %v, %v, not %v", x.name, d, e, x.want)
		}
	}
}

// C6: eight states may come to all their sets; each is told apart from the others.
func TestMadeOfLargest(t *testing.T) {
	// by 0 all go on to the next state; by 1, too, but the one at 0 stays besides; by 2 the one at 0 is lost
	a := steps(3, 8, []int{0}, []int{0}, func(x api.Step) bool {
		return x.To == (x.From+1)%8 && (x.Letter != 2 || x.From != 0) || x.Letter == 1 && x.From == 0 && x.To == 0
	})
	if d := checkMade(t, a, 5); len(d.Next) != 256 {
		t.Error(len(d.Next))
	}
	all := []int{0, 1, 2, 3, 4, 5, 6, 7}
	if d := checkMade(t, steps(4, 8, all, all, func(api.Step) bool { return true }), 2); len(d.Next) != 1 {
		t.Error(d)
	}
}

// C6: what Check (G1) says of it, then ErrSize.
func TestMadeRefuses(t *testing.T) {
	right := func() api.Auto { return wide(2, 8, []int{7}, [3]int{0, 0, 1}, [3]int{1, 1, 7}) }
	for _, x := range []struct {
		name   string
		change func(*api.Auto)
		want   api.Errno
	}{
		{"right", func(a *api.Auto) {}, api.OK},
		{"zero", func(a *api.Auto) { *a = api.Auto{} }, api.ErrRange},
		{"five letters", func(a *api.Auto) { a.Letters, a.States = 5, 0 }, api.ErrRange},
		{"no states", func(a *api.Auto) { a.States = 0 }, api.ErrSize},
		{"301 states", func(a *api.Auto) { a.States = 301; a.Start = []int{-1} }, api.ErrSize},
		{"nine states", func(a *api.Auto) { a.States = 9 }, api.ErrSize},
		{"300 states", func(a *api.Auto) { a.States = 300; a.Steps[1].To = 299 }, api.ErrSize},
		{"no state, ahead of nine", func(a *api.Auto) { a.States = 9; a.Start = []int{9} }, api.ErrRange},
		{"no letter, ahead of nine", func(a *api.Auto) { a.States = 9; a.Steps[0].Letter = 2 }, api.ErrRange},
		{"shape, ahead of nine", func(a *api.Auto) { a.States = 9; a.Final = []int{3, 2} }, api.ErrShape},
		{"steps that fall", func(a *api.Auto) { a.Steps[0], a.Steps[1] = a.Steps[1], a.Steps[0] }, api.ErrShape},
		{"start twice", func(a *api.Auto) { a.Start = []int{0, 0} }, api.ErrShape},
	} {
		a := right()
		x.change(&a)
		d, e := det.Made(a)
		if e != x.want || e != api.OK && !reflect.DeepEqual(d, api.Det{}) {
			t.Errorf("%s: %v, %v, not %v", x.name, d, e, x.want)
		}
	}
}

// P3.
func TestMadeLeavesAll(t *testing.T) {
	fresh := func() api.Auto { return wide(2, 3, []int{0, 2}, [3]int{0, 0, 1}, [3]int{1, 1, 2}, [3]int{2, 0, 0}) }
	a := fresh()
	d, _ := det.Made(a)
	want := deep(d)
	for s := range d.Next {
		d.Next[s] = append(d.Next[s], -7)
		for l := range d.Next[s] {
			d.Next[s][l] = -s
		}
		d.Mark[s] = -9
	}
	for s := range d.Next {
		if !slices.Equal(d.Next[s], []int{-s, -s, -s}) {
			t.Error("rows share memory:", d)
		}
	}
	if again, _ := det.Made(a); !reflect.DeepEqual(a, fresh()) || !reflect.DeepEqual(again, want) {
		t.Error(a, again, want)
	}
}

package cover_test

import (
	"slices"
	"strconv"
	"strings"
	"testing"

	"evermore/api"
	"evermore/cover"
)

// row reads numbers: 1 0 10.
func row(text string) []int {
	var out []int
	for _, f := range strings.Fields(text) {
		x, err := strconv.Atoi(f)
		if err != nil {
			panic(err)
		}
		out = append(out, x)
	}
	return out
}

func digits(text string) []int {
	out := []int{}
	for _, b := range []byte(text) {
		out = append(out, int(b-'0'))
	}
	return out
}

// read reads steps, a digit for each heap: 10>02 takes 1 from the first one, and puts 2 into the second one.
func read(places int, text string) api.Heaps {
	n := api.Heaps{Places: places}
	for _, f := range strings.Fields(text) {
		takes, gives, _ := strings.Cut(f, ">")
		n.Takes, n.Gives = append(n.Takes, digits(takes)), append(n.Gives, digits(gives))
	}
	return n
}

func rows(l [][]int) [][]int {
	var out [][]int
	for _, r := range l {
		out = append(out, slices.Clone(r))
	}
	return out
}

func copied(n api.Heaps) api.Heaps {
	return api.Heaps{Places: n.Places, Takes: rows(n.Takes), Gives: rows(n.Gives)}
}

// turned has the heaps in another order.
func turned(l []int, by int) []int { return slices.Concat(l[by:], l[:by]) }

func turnedHeaps(n api.Heaps, by int) api.Heaps {
	n = copied(n)
	for i := range n.Takes {
		n.Takes[i], n.Gives[i] = turned(n.Takes[i], by), turned(n.Gives[i], by)
	}
	return n
}

// done answers what is behind a step, by the words of S2.
func done(n api.Heaps, state []int, step int) ([]int, bool) {
	if step < 0 || step >= len(n.Takes) {
		return nil, false
	}
	out := slices.Clone(state)
	for i, x := range n.Takes[step] {
		out[i] -= x
		if out[i] < 0 {
			return nil, false
		}
	}
	for i, x := range n.Gives[step] {
		out[i] += x
	}
	return out, true
}

func allDone(n api.Heaps, state []int, steps []int) ([]int, bool) {
	for _, k := range steps {
		next, can := done(n, state, k)
		if !can {
			return nil, false
		}
		state = next
	}
	return state, true
}

func covers(x, y []int) bool {
	for i := range y {
		if x[i] < y[i] {
			return false
		}
	}
	return true
}

func coversOne(x []int, of [][]int) bool {
	return slices.ContainsFunc(of, func(y []int) bool { return covers(x, y) })
}

// least answers the least state, from which the step can be done and leads to one that covers x: of each heap it
// tries all numbers.
func least(n api.Heaps, x []int, step int) []int {
	out := make([]int, len(x))
	for i := range out {
		for out[i] < n.Takes[step][i] || out[i]-n.Takes[step][i]+n.Gives[step][i] < x[i] {
			out[i]++
		}
	}
	return out
}

// judgeCover tells what is wrong with what Cover answers.
func judgeCover(n api.Heaps, state, goal []int, c api.Cover) string {
	if c.Can {
		end, can := allDone(n, state, c.Steps)
		switch {
		case len(c.Bars) > 0:
			return "steps and bars"
		case !can:
			return "the steps cannot be done"
		case !covers(end, goal):
			return "the steps do not lead there"
		}
		return ""
	}
	if len(c.Steps) > 0 {
		return "steps that lead nowhere"
	}
	return judgeBars(n, state, goal, c.Bars)
}

func judgeBars(n api.Heaps, state, goal []int, bars [][]int) string {
	for _, b := range bars {
		if len(b) != n.Places || slices.Min(b) < 0 {
			return "no state"
		}
	}
	switch {
	case !coversOne(goal, bars):
		return "the goal is not barred"
	case coversOne(state, bars):
		return "the state is barred"
	}
	for _, b := range bars {
		for step := range n.Takes {
			if !coversOne(least(n, b, step), bars) {
				return "a step leads to a bar"
			}
		}
	}
	return ""
}

// holdCover sees that what Cover answers is as it is to be, and answers it.
func holdCover(t *testing.T, n api.Heaps, state, goal []int) api.Cover {
	t.Helper()
	c, e := cover.Cover(n, state, goal)
	if e != api.OK {
		t.Fatal("Cover:", n, state, goal, e)
	}
	if wrong := judgeCover(n, state, goal, c); wrong != "" {
		t.Fatal("Cover:", n, state, goal, c, wrong)
	}
	return c
}

// ends tells whether there is an end to the states that can be come to, by going to all of them, if they are not more
// than so many.
func ends(n api.Heaps, state []int, most int) bool {
	key := func(l []int) [4]int {
		var k [4]int
		copy(k[:], l)
		return k
	}
	seen := map[[4]int]bool{key(state): true}
	for list := [][]int{state}; len(list) > 0; {
		x := list[len(list)-1]
		list = list[:len(list)-1]
		for step := range n.Takes {
			if y, can := done(n, x, step); can && !seen[key(y)] {
				seen[key(y)] = true
				list = append(list, y)
			}
		}
		if len(seen) > most {
			return false
		}
	}
	return true
}

// judgePump tells what is wrong with what Bound answers, but whether there is a bound.
func judgePump(n api.Heaps, state []int, p api.Pump) string {
	if p.Bounded {
		if len(p.First)+len(p.Again) > 0 {
			return "steps that lead nowhere"
		}
		return ""
	}
	from, can := allDone(n, state, p.First)
	if !can {
		return "the first steps cannot be done"
	}
	end, can := allDone(n, from, p.Again)
	switch {
	case !can:
		return "the other steps cannot be done"
	case !covers(end, from):
		return "the other steps leave less"
	case slices.Equal(end, from):
		return "the other steps leave the same"
	}
	return ""
}

// holdBound sees that what Bound answers is as it is to be. If it says that there is a bound, all is gone to, if that
// is not more than so many states.
func holdBound(t *testing.T, n api.Heaps, state []int, most int) api.Pump {
	t.Helper()
	p, e := cover.Bound(n, state)
	if e != api.OK {
		t.Fatal("Bound:", n, state, e)
	}
	if wrong := judgePump(n, state, p); wrong != "" {
		t.Fatal("Bound:", n, state, p, wrong)
	}
	if p.Bounded && !ends(n, state, most) {
		t.Fatal("Bound:", n, state, p, "there is no end")
	}
	return p
}

// A dice makes what looks like chance.
type dice uint32

func (x *dice) roll(n int) int {
	*x = *x*1664525 + 1013904223
	return int(*x>>8) % n
}

func (x *dice) row(places, most int) []int {
	out := make([]int, places)
	for i := range out {
		out[i] = x.roll(most + 1)
	}
	return out
}

// heaps are some with so many steps, of which about one number of so many is not 0.
func (x *dice) heaps(places, steps, thin int) api.Heaps {
	n := api.Heaps{Places: places}
	side := func() []int {
		out := x.row(places, 2)
		for i := range out {
			if x.roll(thin) > 0 {
				out[i] = 0
			}
		}
		return out
	}
	for range steps {
		n.Takes, n.Gives = append(n.Takes, side()), append(n.Gives, side())
	}
	return n
}

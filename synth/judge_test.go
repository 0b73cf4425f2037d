package synth_test

import (
	"fmt"
	"slices"
	"testing"

	"evermore/api"
	"evermore/buchi"
	"evermore/safra"
	"evermore/synth"
)

// turned answers the letter of a turn (K1) of which a machine has heard something.
func turned(m api.Machine, state, heard int) int {
	if m.First {
		return m.Says[state][heard] + 2*heard
	}
	return heard + 2*m.Says[state][heard]
}

// judge holds a machine against K3, and answers what is wrong with it. Where nothing is, whatever the other side says
// comes to what the machine's side wants: so the other side can have no machine, and Answer's can is right, too.
func judge(a api.Auto, m api.Machine, can bool) string {
	if _, e := synth.Says(m, nil); e != api.OK {
		return fmt.Sprint("no machine: ", e)
	}
	if m.First == can {
		return "the other side's machine"
	}
	if can {
		return judgeAnswerer(a, m)
	}
	return judgeWorld(a, m)
}

// judgeWorld looks for a word that comes by the machine, and steps that accept it: the same state of both, of Final,
// again and again.
func judgeWorld(a api.Auto, m api.Machine) string {
	final := make([]bool, a.States)
	for _, s := range a.Final {
		final[s] = true
	}
	var starts [][2]int
	for _, s := range a.Start {
		starts = append(starts, [2]int{m.Start, s})
	}
	onward := func(p [2]int, see func([2]int)) {
		for heard, to := range m.Next[p[0]] {
			for _, x := range a.Steps {
				if x.From == p[1] && x.Letter == turned(m, p[0], heard) {
					see([2]int{to, x.To})
				}
			}
		}
	}
	all := func([2]int) bool { return true }
	for _, p := range come(starts, onward, all) {
		if final[p[1]] && slices.Contains(come(after(p, onward), onward, all), p) {
			return fmt.Sprint("what is wished can come, by ", p)
		}
	}
	return ""
}

// judgeAnswerer looks for a word that comes by the machine, and is not accepted: the same state of the machine and of
// an automaton that knows its way, with an odd mark and none below it, again and again.
func judgeAnswerer(a api.Auto, m api.Machine) string {
	d, e := safra.Det(a)
	if e != api.OK {
		return e.Error()
	}
	onward := func(p [2]int, see func([2]int)) {
		for heard, to := range m.Next[p[0]] {
			see([2]int{to, d.Next[p[1]][turned(m, p[0], heard)]})
		}
	}
	for _, p := range come([][2]int{{m.Start, d.Start}}, onward, func([2]int) bool { return true }) {
		mark := d.Mark[p[1]]
		high := func(q [2]int) bool { return d.Mark[q[1]] >= mark }
		if mark%2 == 1 && slices.Contains(come(after(p, onward), onward, high), p) {
			return fmt.Sprint("what is wished can fail, by ", p)
		}
	}
	return ""
}

func after(p [2]int, onward func([2]int, func([2]int))) [][2]int {
	var out [][2]int
	onward(p, func(q [2]int) { out = append(out, q) })
	return out
}

// come answers the pairs that can be come to, by such as may be.
func come(starts [][2]int, onward func([2]int, func([2]int)), may func([2]int) bool) [][2]int {
	seen := map[[2]int]bool{}
	var row [][2]int
	see := func(p [2]int) {
		if !seen[p] && may(p) {
			seen[p] = true
			row = append(row, p)
		}
	}
	for _, p := range starts {
		see(p)
	}
	for i := 0; i < len(row); i++ {
		onward(row[i], see)
	}
	return row
}

// try answers a wish that is right.
func try(t *testing.T, a api.Auto) (api.Machine, bool) {
	t.Helper()
	m, can, e := synth.Answer(a)
	if e != api.OK {
		t.Fatal(a, e)
	}
	if s := judge(a, m, can); s != "" {
		t.Fatal(a, m, can, s)
	}
	return m, can
}

// lassoOf answers the letters that come by a machine where a lasso is heard.
func lassoOf(m api.Machine, heard api.Lasso) api.Lasso {
	var out api.Lasso
	s := m.Start
	speak := func(w []int) []int {
		var letters []int
		for _, x := range w {
			letters = append(letters, turned(m, s, x))
			s = m.Next[s][x]
		}
		return letters
	}
	out.Head = speak(heard.Head)
	var loops [][]int
	at := map[int]int{}
	for {
		first, again := at[s]
		if again {
			out.Head = append(out.Head, slices.Concat(loops[:first]...)...)
			out.Loop = slices.Concat(loops[first:]...)
			return out
		}
		at[s] = len(loops)
		loops = append(loops, speak(heard.Loop))
	}
}

// hear holds what comes by a machine where some lassos are heard against what is accepted by G2 alone; it answers how
// many of them are short enough for that.
func hear(t *testing.T, a api.Auto, m api.Machine, can bool, x *dice, many int) int {
	t.Helper()
	n := 0
	for range many {
		l := lassoOf(m, api.Lasso{Head: x.heard(x.roll(6)), Loop: x.heard(1 + x.roll(5))})
		if len(l.Head) > api.MaxWord || len(l.Loop) > api.MaxWord {
			continue
		}
		is, e := buchi.Accepts(a, l)
		if is != can || e != api.OK {
			t.Fatal(a, m, can, l, is, e)
		}
		n++
	}
	return n
}

// dice is a row of numbers that looks like chance, and is the same each time.
type dice uint32

func (x *dice) roll(n int) int {
	*x = *x*1664525 + 1013904223
	return int(*x>>8) % n
}

func (x *dice) heard(n int) []int {
	var out []int
	for range n {
		out = append(out, x.roll(2))
	}
	return out
}

// some are numbers below a bound, of each hundred so many.
func (x *dice) some(below, chance int) []int {
	var out []int
	for s := range below {
		if x.roll(100) < chance {
			out = append(out, s)
		}
	}
	return out
}

// wish has of each hundred steps that there can be so many.
func (x *dice) wish(states, chance int) api.Auto {
	a := api.Auto{Letters: 4, States: states, Start: x.some(states, 60), Final: x.some(states, 40)}
	for _, n := range x.some(states*4*states, chance) {
		a.Steps = append(a.Steps, api.Step{From: n / 4 / states, Letter: n / states % 4, To: n % states})
	}
	return a
}

// machine is any machine.
func (x *dice) machine(first bool, states int) api.Machine {
	m := api.Machine{First: first, Start: x.roll(states)}
	for range states {
		says := [2]int{x.roll(2), x.roll(2)}
		if first {
			says[1] = says[0]
		}
		m.Says = append(m.Says, says)
		m.Next = append(m.Next, [2]int{x.roll(states), x.roll(states)})
	}
	return m
}

package safra_test

import (
	"slices"

	"evermore/api"
)

// full has all steps that there can be.
func full(letters, states int) api.Auto {
	a := api.Auto{Letters: letters, States: states}
	for s := range states {
		a.Start = append(a.Start, s)
		a.Final = append(a.Final, s)
		for l := range letters {
			for t := range states {
				a.Steps = append(a.Steps, api.Step{From: s, Letter: l, To: t})
			}
		}
	}
	return a
}

// small calls see with each automaton of so many letters and states.
func small(letters, states int, see func(api.Auto)) {
	all := full(letters, states)
	bits := func(set int) []int {
		return slices.DeleteFunc(slices.Clone(all.Start), func(s int) bool { return set>>s&1 == 0 })
	}
	for steps := range 1 << len(all.Steps) {
		for start := range 1 << states {
			for final := range 1 << states {
				a := api.Auto{Letters: letters, States: states, Start: bits(start), Final: bits(final)}
				for i, x := range all.Steps {
					if steps>>i&1 == 1 {
						a.Steps = append(a.Steps, x)
					}
				}
				see(a)
			}
		}
	}
}

// dice is a row of numbers that looks like chance, and is the same each time.
type dice uint32

func (x *dice) roll(n int) int {
	*x = *x*1664525 + 1013904223
	return int(*x>>8) % n
}

func (x *dice) some(below, chance int) []int {
	var out []int
	for s := range below {
		if x.roll(100) < chance {
			out = append(out, s)
		}
	}
	return out
}

// auto has of each hundred steps that there can be so many.
func (x *dice) auto(letters, states, chance int) api.Auto {
	a := api.Auto{Letters: letters, States: states, Start: x.some(states, 50), Final: x.some(states, 15+x.roll(40))}
	for s := range states {
		for l := range letters {
			for _, t := range x.some(states, chance) {
				a.Steps = append(a.Steps, api.Step{From: s, Letter: l, To: t})
			}
		}
	}
	return a
}

func (x *dice) word(letters, n int) []int {
	w := make([]int, n)
	for i := range w {
		w[i] = x.roll(letters)
	}
	return w
}

func (x *dice) lasso(letters, head, loop int) api.Lasso {
	return api.Lasso{Head: x.word(letters, x.roll(head+1)), Loop: x.word(letters, 1+x.roll(loop))}
}

// A profile tells what a word does to an automaton of at most 4 states: whether it leads from one to another (1),
// and whether through Final (2), where the first one does not count. Words of one profile can stand for each other.
type profile [4][4]int8

func nothing(a api.Auto) profile {
	var p profile
	for s := range a.States {
		p[s][s] = 1
	}
	return p
}

func letterOf(a api.Auto, letter int) profile {
	var p profile
	for _, x := range a.Steps {
		if x.Letter == letter {
			p[x.From][x.To] = 1
			if slices.Contains(a.Final, x.To) {
				p[x.From][x.To] = 2
			}
		}
	}
	return p
}

func (p profile) then(q profile) profile {
	var out profile
	for s := range 4 {
		for k := range 4 {
			for t := range 4 {
				if p[s][k] > 0 && q[k][t] > 0 {
					out[s][t] = max(out[s][t], p[s][k], q[k][t])
				}
			}
		}
	}
	return out
}

func profileOf(a api.Auto, w []int) profile {
	p := nothing(a)
	for _, l := range w {
		p = p.then(letterOf(a, l))
	}
	return p
}

// forEver tells whether a word with the one profile, and ones with the other behind it, for ever, are accepted: the
// profile of loops is doubled, while keeping what it was, until ways of 16 loops are in it, which is more than is needed;
// is there then a way back through Final?
func forEver(a api.Auto, head, loop profile) bool {
	for range 4 {
		more := loop.then(loop)
		for s := range 4 {
			for t := range 4 {
				loop[s][t] = max(loop[s][t], more[s][t])
			}
		}
	}
	lead := head.then(loop)
	for _, s := range a.Start {
		for t := range 4 {
			if lead[s][t] > 0 && loop[t][t] == 2 {
				return true
			}
		}
	}
	return false
}

// accepted tells whether an automaton accepts a lasso, however long.
func accepted(a api.Auto, l api.Lasso) bool {
	return forEver(a, profileOf(a, l.Head), profileOf(a, l.Loop))
}

// A sample is a word, and what it does to two automata.
type sample struct {
	word []int
	does [2]profile
}

// samples answers a word for each thing that words do to a and b, the shortest words first; no more than so many
// (then it is not whole). Each infinite word is one of a sample, and another one for ever (Ramsey): so two automata
// differ in what they accept just where they differ at a lasso of two samples.
func samples(a, b api.Auto, most int) (out []sample, whole bool) {
	out = []sample{{does: [2]profile{nothing(a), nothing(b)}}}
	known := map[[2]profile]bool{}
	for i := 0; i < len(out); i++ {
		for l := range a.Letters {
			does := [2]profile{out[i].does[0].then(letterOf(a, l)), out[i].does[1].then(letterOf(b, l))}
			if known[does] {
				continue
			}
			if len(out) == most {
				return out, false
			}
			known[does] = true
			out = append(out, sample{append(slices.Clone(out[i].word), l), does})
		}
	}
	return out, true
}

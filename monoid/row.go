package monoid

import "evermore/api"

// maxStates is how many states the least automaton may have.
const maxStates = 5

// A row tells where a word leads to from each state. Places beyond the states lead to themselves, so that they
// neither part two rows nor make one count.
type row [maxStates]int

// idle is what the empty word does.
func idle() row {
	var r row
	for s := range r {
		r[s] = s
	}
	return r
}

// then answers what a letter does behind what was done.
func (r row) then(d api.Det, letter int) row {
	for s := range d.Next {
		r[s] = d.Next[r[s]][letter]
	}
	return r
}

func done(d api.Det, w []int) row {
	r := idle()
	for _, l := range w {
		r = r.then(d, l)
	}
	return r
}

// comesBack answers the least number of times, above 1, behind which some state is come back to for the first
// time; 0 if there is none.
func (r row) comesBack() int {
	least := 0
	for s := range r {
		n := r.round(s)
		if n > 1 && (least == 0 || n < least) {
			least = n
		}
	}
	return least
}

// round answers the first number of times behind which s is come back to; 0 if it never is, which is told as soon
// as there have been as many times as states.
func (r row) round(s int) int {
	at := s
	for n := range r {
		at = r[at]
		if at == s {
			return n + 1
		}
	}
	return 0
}

// A step tells how the first word of a row ends: with a letter, behind the first word of an earlier row.
type step struct {
	does         row
	from, letter int
}

// seek shows each row that words do, in the order of the first word that does it, until one is wanted, and answers
// that word. As a first word without its last letter is the first one of what that does, rows alone need to go on,
// and each but once.
func seek(d api.Det, wanted func(row) bool) ([]int, bool) {
	steps := []step{{does: idle(), from: -1}}
	known := map[row]struct{}{idle(): {}}
	for i := 0; i < len(steps); i++ {
		if wanted(steps[i].does) {
			return wordTo(steps, i), true
		}
		for l := range d.Letters {
			r := steps[i].does.then(d, l)
			if _, is := known[r]; !is {
				known[r] = struct{}{}
				steps = append(steps, step{r, i, l})
			}
		}
	}
	return nil, false
}

func wordTo(steps []step, at int) []int {
	if steps[at].from < 0 {
		return nil
	}
	return append(wordTo(steps, steps[at].from), steps[at].letter)
}

package learn

import (
	"slices"

	"evermore/api"
	"evermore/det"
)

// learner knows how many letters there are, and what the teacher's methods answer: it looks at none of the
// teacher's fields.
//
// It has words that lead to states, no two of the same row: what is answered of a word with each of the ends behind
// it, a sign an end. The ends are closed: what is behind the first letter of one is one, too. So a guess whose
// states are the rows agrees with all that stands in rows (Angluin). Of each word at which a guess was wrong all
// ends are taken in (Maler, Pnueli): the next guess agrees with it, too, so it must have more states, and rows never
// have more than Least.
//
// So of at most 12 states a way has at most 11 letters, and a word at which a guess of at most 11 was wrong at most
// 21: no word that is asked of, a way and a letter and an end, has more letters than a word may have.
type learner struct {
	teacher
	letters int
	ways    [][]int
	ends    [][]int
	heard   map[string]byte
}

// The signs of rows.
const (
	minus byte = '-'
	plus  byte = '+'
)

func beginner(letters int, t teacher) *learner {
	return &learner{teacher: t, letters: letters, ways: [][]int{{}}, ends: [][]int{{}}, heard: map[string]byte{}}
}

func (l *learner) learn() {
	for {
		wrong, right := l.right(l.guess())
		if right {
			return
		}
		l.takeIn(wrong)
	}
}

// guess makes an automaton of the rows. All of its states are come to, as the ways to them go through states, too.
func (l *learner) guess() api.Det {
	state := l.states()
	next := func(s, letter int) int { return state[l.row(l.on(s, letter))] }
	mark := func(s int) bool { return l.sign(l.ways[s]) == plus }
	return det.Of(l.letters, 0, next, mark)
}

// states finds ways until each row that one comes to by a letter is that of a way, and numbers the rows by their ways.
func (l *learner) states() map[string]int {
	state := map[string]int{}
	for s, w := range l.ways {
		state[l.row(w)] = s
	}
	for s := 0; s < len(l.ways); s++ {
		for letter := range l.letters {
			w := l.on(s, letter)
			r := l.row(w)
			if _, known := state[r]; !known {
				state[r] = len(l.ways)
				l.ways = append(l.ways, w)
			}
		}
	}
	return state
}

// on goes by a letter from a state.
func (l *learner) on(s, letter int) []int {
	return slices.Concat(l.ways[s], []int{letter})
}

func (l *learner) row(w []int) string {
	var r []byte
	for _, end := range l.ends {
		r = append(r, l.sign(slices.Concat(w, end)))
	}
	return string(r)
}

// sign asks of no word twice.
func (l *learner) sign(w []int) byte {
	name := nameOf(w)
	s, known := l.heard[name]
	if !known {
		s = minus
		if l.accepts(w) {
			s = plus
		}
		l.heard[name] = s
	}
	return s
}

func nameOf(w []int) string {
	name := make([]byte, len(w))
	for i, letter := range w {
		name[i] = byte(letter)
	}
	return string(name)
}

// takeIn takes in the ends of a word that are not known, the shortest first.
func (l *learner) takeIn(w []int) {
	for i := len(w) - 1; i >= 0; i-- {
		end := w[i:]
		if !slices.ContainsFunc(l.ends, func(x []int) bool { return slices.Equal(x, end) }) {
			l.ends = append(l.ends, end)
		}
	}
}

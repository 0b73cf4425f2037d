package buchi

import "evermore/api"

// A search goes through the places of an automaton along a lasso: a state, and at which letter of the head and of
// the loop it stands. Behind the loop's last letter stands its first one.
type search struct {
	states, letters int
	word            []int   // the head, then the loop
	turn            int     // where the loop begins
	to              [][]int // by state, then by letter
	start           []int
	final           []bool
	seen, seenAgain []bool // by place
}

func newSearch(a api.Auto, l api.Lasso) *search {
	s := &search{states: a.States, letters: a.Letters, turn: len(l.Head), start: a.Start, final: finals(a)}
	s.word = append(append(s.word, l.Head...), l.Loop...)
	s.to = make([][]int, a.States*a.Letters)
	for _, x := range a.Steps {
		i := x.From*a.Letters + x.Letter
		s.to[i] = append(s.to[i], x.To)
	}
	s.seen = make([]bool, a.States*len(s.word))
	s.seenAgain = make([]bool, a.States*len(s.word))
	return s
}

// finds tells whether some place with a state of Final is come to, and come to from itself again.
func (s *search) finds() bool {
	for _, p := range s.start {
		if !s.seen[p] && s.visit(p) {
			return true
		}
	}
	return false
}

// next answers the first place of those at the next letter, and in which states one is there.
func (s *search) next(place int) (int, []int) {
	at, state := place/s.states, place%s.states
	row := s.to[state*s.letters+s.word[at]]
	if at++; at == len(s.word) {
		at = s.turn
	}
	return at * s.states, row
}

// visit looks for a way back only when all that lies ahead of a place has been visited, and looks at nothing that
// an earlier look has seen (Courcoubetis, Vardi, Wolper, Yannakakis). A way back that led through such a thing
// would lead to the place from one that was left ahead of it; so it would lead through one that was not left then,
// and from which that other one had been come to: the earlier look would have found a way back of its own.
func (s *search) visit(place int) bool {
	s.seen[place] = true
	first, row := s.next(place)
	for _, state := range row {
		if !s.seen[first+state] && s.visit(first+state) {
			return true
		}
	}
	return s.final[place%s.states] && s.leads(place, place)
}

func (s *search) leads(place, back int) bool {
	first, row := s.next(place)
	for _, state := range row {
		p := first + state
		if p == back {
			return true
		}
		if !s.seenAgain[p] {
			s.seenAgain[p] = true
			if s.leads(p, back) {
				return true
			}
		}
	}
	return false
}

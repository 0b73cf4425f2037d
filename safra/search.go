package safra

import (
	"iter"

	"evermore/api"
)

// A search goes by an automaton and by a deterministic one at once: a place is a state of each, to which one word
// leads. It looks for a lasso that both accept.
type search struct {
	auto  api.Auto
	det   api.Det
	to    [][]int // by the automaton's state, then by letter
	final []bool
}

func newSearch(a api.Auto, d api.Det) *search {
	s := &search{auto: a, det: d, to: make([][]int, a.States*a.Letters), final: make([]bool, a.States)}
	for _, x := range a.Steps {
		i := x.From*a.Letters + x.Letter
		s.to[i] = append(s.to[i], x.To)
	}
	for _, f := range a.Final {
		s.final[f] = true
	}
	return s
}

func (s *search) places() int              { return len(s.det.Next) * s.auto.States }
func (s *search) place(state, det int) int { return det*s.auto.States + state }
func (s *search) mark(place int) int       { return s.det.Mark[place/s.auto.States] }
func (s *search) isFinal(place int) bool   { return s.final[place%s.auto.States] }

func (s *search) starts() []int {
	var out []int
	for _, x := range s.auto.Start {
		out = append(out, s.place(x, s.det.Start))
	}
	return out
}

// after goes through the letters, and the places to which each leads.
func (s *search) after(place int) iter.Seq2[int, int] {
	state, det := place%s.auto.States, place/s.auto.States
	return func(see func(int, int) bool) {
		for l, then := range s.det.Next[det] {
			for _, x := range s.to[state*s.auto.Letters+l] {
				if !see(l, s.place(x, then)) {
					return
				}
			}
		}
	}
}

// A trail is a place that is come to, and how: by a letter from an earlier trail (-1: it begins there).
type trail struct {
	place, from, letter int
	long                int
	final               bool // a state of Final was come to, behind the first place
}

// trails begins at the places that it is given, and goes on to those whose marks are not below the least one: in the
// order of how many letters it takes, to each place once without a state of Final on the way, and once with one. The
// one that is the last it answers as the last one.
func (s *search) trails(begin []int, least int, last func(trail) bool) []trail {
	var out []trail
	for _, p := range begin {
		out = append(out, trail{place: p, from: -1})
	}
	come, comeByFinal := make([]bool, s.places()), make([]bool, s.places())
	for i := 0; i < len(out); i++ {
		for l, p := range s.after(out[i].place) {
			x := trail{place: p, from: i, letter: l, long: out[i].long + 1, final: out[i].final || s.isFinal(p)}
			seen := come
			if x.final {
				seen = comeByFinal
			}
			if seen[p] || s.mark(p) < least {
				continue
			}
			seen[p] = true
			out = append(out, x)
			if last(x) {
				return out
			}
		}
	}
	return out
}

// shortest answers, of the lassos whose head leads to a place with a good mark, and whose loop leads from there to it
// again, through a state of Final and to no lower mark, one with the fewest letters. Each lasso that both accept has
// the infinite word of such a one. No place comes twice in the head, none three times in the loop.
func (s *search) shortest() (api.Lasso, bool) {
	best, found := api.Lasso{}, false
	tried := make([]bool, s.places())
	heads := s.trails(s.starts(), 0, func(trail) bool { return false })
	for i, head := range heads {
		if tried[head.place] || !isGood(s.mark(head.place)) {
			continue
		}
		tried[head.place] = true
		longest := s.places() * 2
		if found {
			longest = length(best) - head.long - 1
		}
		if loop, is := s.loop(head.place, longest); is {
			best, found = api.Lasso{Head: wordTo(heads, i), Loop: loop}, true
		}
	}
	return best, found
}

func length(l api.Lasso) int { return len(l.Head) + len(l.Loop) }

// loop answers a shortest way back to a place, if there is one of at most so many letters.
func (s *search) loop(place, longest int) ([]int, bool) {
	if longest < 1 {
		return nil, false
	}
	back := func(x trail) bool { return x.place == place && x.final }
	row := s.trails([]int{place}, s.mark(place), func(x trail) bool { return back(x) || x.long > longest })
	end := row[len(row)-1]
	if !back(end) || end.long > longest {
		return nil, false
	}
	return wordTo(row, len(row)-1), true
}

func wordTo(row []trail, at int) []int {
	w := make([]int, row[at].long)
	for x := row[at]; x.from >= 0; x = row[x.from] {
		w[x.long-1] = x.letter
	}
	return w
}

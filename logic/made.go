package logic

import (
	"slices"

	"evermore/api"
	"evermore/det"
)

// A letter of the automaton of a part with n variables around it has n+1 bits: the lowest one is the letter of the
// word, the others tell which variables, from the outermost on, are that place or have it. What is accepted has,
// besides, just one place of each variable for places: so what is not true is what is left over of such words.
type letter = int

func marks(l letter) int { return l >> 1 }

// made answers the least automaton of a part; false, if some table is too large. Of those around, it is told which
// are for sets.
func made(n *node, around []bool) (api.Det, bool) {
	switch n.kind {
	case either, both:
		return joined(n, around)
	case not:
		d, fits := made(n.left, around)
		if !fits {
			return d, false
		}
		return det.Blend(placed(around, nothing), d, onlyFirst), true
	case some:
		d, fits := made(n.left, append(around[:len(around):len(around)], n.set))
		if !fits {
			return d, false
		}
		return table(d)
	}
	return placed(around, n.bears), true
}

// What is taken of two, as a table of det.Mixed.
const (
	onlyFirst = 1 << 2
	ofBoth    = 1 << 3
	ofEither  = 1<<1 | 1<<2 | 1<<3
)

func joined(n *node, around []bool) (api.Det, bool) {
	a, fits := made(n.left, around)
	if !fits {
		return a, false
	}
	b, fits := made(n.right, around)
	if !fits {
		return b, false
	}
	if n.kind == either {
		return det.Blend(a, b, ofEither), true
	}
	return det.Blend(a, b, ofBoth), true
}

// A stand is what is known behind some letters: which variables for places have had theirs, the marks of the last
// letter; or that nothing can make it right any more.
type stand struct {
	had, last int
	lost      bool
}

// placed answers the least automaton of the words with one place of each variable for places, each letter of which
// bears what is asked.
func placed(around []bool, bears func(stand, letter) bool) api.Det {
	places := 0
	for i, set := range around {
		if !set {
			places |= 1 << i
		}
	}
	goes := func(s stand, l letter) stand {
		if s.lost || s.had&marks(l) != 0 || !bears(s, l) {
			return stand{lost: true}
		}
		return stand{had: s.had | marks(l)&places, last: marks(l)}
	}
	ends := func(s stand) bool { return !s.lost && s.had == places }
	return det.Fewest(det.Of(2<<len(around), stand{}, goes, ends))
}

func nothing(stand, letter) bool { return true }

// bears tells whether an atom can be true with that letter behind what is known.
func (n *node) bears(s stand, l letter) bool {
	a, b := marks(l)>>n.a&1 == 1, marks(l)>>n.b&1 == 1
	switch n.kind {
	case zero:
		return !a || l&1 == 0
	case one:
		return !a || l&1 == 1
	case ahead:
		return !b || s.had>>n.a&1 == 1
	case same:
		return a == b
	case next:
		return b == (s.last>>n.a&1 == 1)
	}
	return !a || b
}

// table answers the least automaton of what is accepted with some marks of the innermost variable; false, if more
// sets of states than may be come up.
func table(d api.Det) (api.Det, bool) {
	sets, out := [][]int{{d.Start}}, api.Det{Letters: d.Letters / 2}
	for i := 0; i < len(sets); i++ {
		row := make([]int, out.Letters)
		for l := range row {
			led := ledTo(d, sets[i], l)
			row[l] = slices.IndexFunc(sets, func(s []int) bool { return slices.Equal(s, led) })
			if row[l] < 0 {
				row[l] = len(sets)
				sets = append(sets, led)
			}
		}
		if len(sets) > api.MaxTable {
			return api.Det{}, false
		}
		out.Next = append(out.Next, row)
		out.Mark = append(out.Mark, marked(d, sets[i]))
	}
	return det.Fewest(out), true
}

// ledTo goes by a letter with the mark of the innermost variable, and without it.
func ledTo(d api.Det, set []int, l letter) []int {
	led := make([]int, 0, 2*len(set))
	for _, s := range set {
		led = append(led, d.Next[s][l], d.Next[s][l+d.Letters/2])
	}
	slices.Sort(led)
	return slices.Compact(led)
}

func marked(d api.Det, set []int) int {
	most := 0
	for _, s := range set {
		most = max(most, d.Mark[s])
	}
	return most
}

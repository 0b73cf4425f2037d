package trans

import (
	"slices"

	"evermore/api"
)

// A pair has a state of t, and one of u.
type pair [2]int

// behind answers one whose states are pairs: where t is, and where u is behind what t has said.
func behind(t, u api.Trans) api.Trans {
	first, at := along(u, u.Start, t.First)
	step := func(p pair, l int) ([]int, pair) {
		says, to := along(u, p[1], t.Says[p[0]][l])
		return says, pair{t.Next[p[0]][l], to}
	}
	last := func(p pair) []int {
		says, to := along(u, p[1], t.Last[p[0]])
		return slices.Concat(says, u.Last[to])
	}
	out := of(t.In, pair{t.Start, at}, step, last)
	out.Out, out.First = u.Out, slices.Concat(u.First, first)
	return out
}

// A meeting is the pair that a word leads to; how: by a letter from an earlier meeting; and what each of both has said
// that the other has not said yet.
type meeting struct {
	pair         pair
	from, letter int
	more         [2][]int
}

// unlike goes through pairs in the order of the words that lead to them. It looks at each pair once: as long as both
// say the same at the end, their Last tell how much more one of them has said, by whatever word it was come to.
func unlike(t, u api.Trans) ([]int, bool) {
	met := []meeting{{pair: pair{t.Start, u.Start}, from: -1, more: apart(t.First, u.First)}}
	known := map[pair]struct{}{}
	for i := 0; i < len(met); i++ {
		m := met[i]
		if !endAlike(t, u, m) {
			return wordTo(met, i), true
		}
		if _, is := known[m.pair]; is {
			continue
		}
		known[m.pair] = struct{}{}
		for l := range t.In {
			met = append(met, onward(t, u, m, i, l))
		}
	}
	return nil, false
}

func endAlike(t, u api.Trans, m meeting) bool {
	x, y := slices.Concat(m.more[0], t.Last[m.pair[0]]), slices.Concat(m.more[1], u.Last[m.pair[1]])
	return slices.Equal(x, y)
}

func onward(t, u api.Trans, m meeting, from, letter int) meeting {
	p, q := m.pair[0], m.pair[1]
	x, y := slices.Concat(m.more[0], t.Says[p][letter]), slices.Concat(m.more[1], u.Says[q][letter])
	return meeting{pair{t.Next[p][letter], u.Next[q][letter]}, from, letter, apart(x, y)}
}

// apart takes away with what both begin.
func apart(x, y []int) [2][]int {
	n := common(x, y)
	return [2][]int{x[n:], y[n:]}
}

func wordTo(met []meeting, at int) []int {
	var w []int
	for ; met[at].from >= 0; at = met[at].from {
		w = append(w, met[at].letter)
	}
	slices.Reverse(w)
	return w
}

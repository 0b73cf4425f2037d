package det

import "evermore/api"

// A meeting is a pair of states that one word leads to, and how: by a letter from an earlier meeting.
type meeting struct {
	pair         [2]int
	from, letter int
}

// apart goes through pairs of states in the order of the words that lead to them. It leaves out a pair whose
// states are kin by pairs that came before (Hopcroft, Karp): what tells it apart tells one of those apart, too,
// and, as their words came before, with a word that comes before. So no more pairs are looked at than there are
// states.
func apart(d api.Det, p, q int) ([]int, bool) {
	k := strangers(len(d.Next))
	k.join(p, q)
	met := []meeting{{pair: [2]int{p, q}, from: -1}}
	for i := 0; i < len(met); i++ {
		x, y := met[i].pair[0], met[i].pair[1]
		if d.Mark[x] != d.Mark[y] {
			return wordTo(met, i), true
		}
		for l := range d.Letters {
			pair := [2]int{d.Next[x][l], d.Next[y][l]}
			if k.join(pair[0], pair[1]) {
				met = append(met, meeting{pair, i, l})
			}
		}
	}
	return nil, false
}

func wordTo(met []meeting, at int) []int {
	long := 0
	for i := at; met[i].from >= 0; i = met[i].from {
		long++
	}
	w := make([]int, long)
	for i := at; met[i].from >= 0; i = met[i].from {
		long--
		w[long] = met[i].letter
	}
	return w
}

// beside answers both in one, the states of b behind those of a.
func beside(a, b api.Det) api.Det {
	out := api.Det{Letters: a.Letters, Start: a.Start}
	out.Next = append(out.Next, a.Next...)
	out.Mark = append(out.Mark, a.Mark...)
	out.Mark = append(out.Mark, b.Mark...)
	for _, row := range b.Next {
		moved := make([]int, len(row))
		for l, s := range row {
			moved[l] = len(a.Next) + s
		}
		out.Next = append(out.Next, moved)
	}
	return out
}

// kin says of each state another one of its kind, or itself: the head of its kind.
type kin []int

func strangers(many int) kin {
	k := make(kin, many)
	for s := range k {
		k[s] = s
	}
	return k
}

// head makes ways shorter as it goes them.
func (k kin) head(s int) int {
	for k[s] != s {
		k[s] = k[k[s]]
		s = k[s]
	}
	return s
}

// join makes two states kin, and tells whether they were not.
func (k kin) join(p, q int) bool {
	p, q = k.head(p), k.head(q)
	k[p] = q
	return p != q
}

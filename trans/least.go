package trans

import (
	"slices"

	"evermore/api"
)

// along answers what is said from a state on to letters, without Last, and where it is then.
func along(t api.Trans, from int, letters []int) (says []int, to int) {
	for _, l := range letters {
		says = append(says, t.Says[from][l]...)
		from = t.Next[from][l]
	}
	return says, from
}

// least is Least without limits (Choffrut): what can be said earlier is said earlier; then states from which on the
// same is said are one.
func least(t api.Trans) api.Trans {
	p := pushed(t)
	kind := kinds(p)
	step := func(s, l int) ([]int, int) { return slices.Clone(p.Says[s][l]), kind[p.Next[s][l]] }
	last := func(s int) []int { return slices.Clone(p.Last[s]) }
	out := of(t.In, kind[p.Start], step, last)
	out.Out, out.First = t.Out, p.First
	return out
}

// of answers one whose states may be anything that can be compared: what is said by a letter and where that leads, and
// what is said at the end, is told by functions. States are numbered as they are come to. There must be an end to them.
func of[S comparable](in int, start S, step func(S, int) ([]int, S), last func(S) []int) api.Trans {
	t := api.Trans{In: in}
	states, number := []S{start}, map[S]int{start: 0}
	for i := 0; i < len(states); i++ {
		next, says := make([]int, in), make([][]int, in)
		for l := range in {
			said, s := step(states[i], l)
			n, known := number[s]
			if !known {
				n = len(states)
				number[s] = n
				states = append(states, s)
			}
			next[l], says[l] = n, said
		}
		t.Next = append(t.Next, next)
		t.Says = append(t.Says, says)
		t.Last = append(t.Last, last(states[i]))
	}
	return t
}

// pushed lets each state that is come to say at once what it would say in any case.
func pushed(t api.Trans) api.Trans {
	sure := sureOf(t)
	step := func(s, l int) ([]int, int) {
		next := t.Next[s][l]
		return slices.Concat(t.Says[s][l], sure[next])[len(sure[s]):], next
	}
	last := func(s int) []int { return t.Last[s][len(sure[s]):] }
	out := of(t.In, t.Start, step, last)
	out.First = slices.Concat(t.First, sure[t.Start])
	return out
}

// sureOf answers, of each state, all with which whatever is said from it on begins. That can be no more than Last, and
// is cut for as long as what is said by some letter begins otherwise.
func sureOf(t api.Trans) [][]int {
	sure := slices.Clone(t.Last)
	for cut := true; cut; {
		cut = false
		for s, row := range t.Next {
			for l, next := range row {
				n := common(sure[s], slices.Concat(t.Says[s][l], sure[next]))
				cut = cut || n < len(sure[s])
				sure[s] = sure[s][:n]
			}
		}
	}
	return sure
}

// common answers with how many letters both begin.
func common(v, w []int) int {
	n := 0
	for n < len(v) && n < len(w) && v[n] == w[n] {
		n++
	}
	return n
}

// kinds answers, of each state, the first one from which on the same is said, of one that is pushed: all are of one
// kind, until they say unlike things at once, or a letter leads to unlike kinds.
func kinds(t api.Trans) []int {
	kind := make([]int, len(t.Next))
	for {
		parted := make([]int, len(kind))
		for s := range parted {
			for !alike(t, kind, parted[s], s) {
				parted[s]++
			}
		}
		if slices.Equal(parted, kind) {
			return kind
		}
		kind = parted
	}
}

func alike(t api.Trans, kind []int, p, q int) bool {
	for l := range t.In {
		if kind[t.Next[p][l]] != kind[t.Next[q][l]] || !slices.Equal(t.Says[p][l], t.Says[q][l]) {
			return false
		}
	}
	return slices.Equal(t.Last[p], t.Last[q])
}

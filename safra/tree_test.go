package safra

import (
	"testing"

	"evermore/api"
)

// I2: no automaton of four states has more than 600 stands, whatever its letters do, so what is made passes Check.
// All letters that there can be are tried at each tree; of Final it matters how many states it has, not which.
func TestStandsOfAll(t *testing.T) {
	for final := range 5 {
		t.Run("", func(t *testing.T) {
			t.Parallel()
			if n := countStands(t, set(1<<final-1)); n > 600 {
				t.Errorf("%d of Final: %d stands", final, n)
			}
		})
	}
}

func countStands(t *testing.T, final set) int {
	m := &maker{final: final}
	known, trees := map[stand]int{}, map[tree]int{}
	var work []tree
	come := func(s stand) {
		known[s]++
		if trees[s.tree]++; trees[s.tree] == 1 {
			work = append(work, s.tree)
		}
	}
	for start := range set(16) {
		come(stand{tree{sets: [api.MaxSmall]set{start}}, quiet})
	}
	for i := 0; i < len(work); i++ {
		checkTree(t, work[i])
		for letter := range 1 << 16 {
			for s := range 4 {
				m.to[0][s] = set(letter >> (4 * s) & 15)
			}
			next := m.next(work[i], 0)
			if known[next] == 0 {
				come(next)
			}
			if next.mark < 1 || next.mark > api.MaxMark {
				t.Fatal(work[i], letter, next)
			}
		}
	}
	return len(known)
}

// checkTree holds a tree to what is said of it.
func checkTree(t *testing.T, x tree) {
	t.Helper()
	var below [api.MaxSmall]set
	for i, s := range x.sets {
		if s == 0 {
			if x.parents[i] != 0 || i+1 < len(x.sets) && x.sets[i+1] != 0 {
				t.Fatal("something stands behind the last node:", x)
			}
			continue
		}
		if p := x.parents[i]; i > 0 {
			if p >= i || s&^x.sets[p] != 0 || s&below[p] != 0 {
				t.Fatal("a child holds what is not left to it:", x)
			}
			below[p] |= s
		}
	}
	for i, s := range x.sets {
		if s != 0 && s == below[i] {
			t.Fatal("a node holds nothing of its own:", x)
		}
	}
}

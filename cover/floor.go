package cover

import (
	"slices"
	"sort"
)

// How many numbers there are in the largest blocks. Were there far fewer than come up, there would be many blocks to look
// at; were there far more, many sizes to keep.
const largest = 256

// A block is all numbers up to the one that it is named by, as many as size says: a power of two by which its name can
// be divided, but not above the largest.
func size(block int) int {
	x := block | largest
	return x & -x
}

type pair [2]int

// Stairs are pairs of which none is above another one, put in order: so the first numbers rise, and the second ones
// fall.
type stairs []pair

// rise answers how many of the first numbers are below x.
func (l stairs) rise(x int) int {
	return sort.Search(len(l), func(i int) bool { return l[i][0] >= x })
}

// hasBelow tells whether p is one of them, or above one.
func (l stairs) hasBelow(p pair) bool {
	i := l.rise(p[0] + 1)
	return i > 0 && l[i-1][1] <= p[1]
}

// with answers the stairs of those and of p.
func (l stairs) with(p pair) stairs {
	if l.hasBelow(p) {
		return l
	}
	from := l.rise(p[0])
	to := from
	for to < len(l) && l[to][1] >= p[1] {
		to++
	}
	return slices.Replace(l, from, to, p)
}

// A floor is of all piles that it has been given, and tells which ones are above some of them. Of each two blocks it
// has the third and fourth numbers of those whose first number is in the one, and whose second one is in the other: so
// a few pairs of blocks tell, where the piles may be tens of thousands.
type floor struct {
	blocks map[pair]stairs
	least  pair // no first number is below least[0], no second one below least[1]
}

// put lays piles into all blocks that they are in.
func (f *floor) put(x piles) {
	if f.blocks == nil {
		f.blocks = map[pair]stairs{}
	}
	rest := pair{x[2], x[3]}
	for _, i := range blocksOf(x[0]) {
		for _, j := range blocksOf(x[1]) {
			f.blocks[pair{i, j}] = f.blocks[pair{i, j}].with(rest)
		}
	}
	f.least = pair{min(f.least[0], x[0]), min(f.least[1], x[1])}
}

// blocksOf answers the blocks that a number is in.
func blocksOf(x int) []int {
	list := []int{x}
	for size(x) < largest {
		x += size(x)
		list = append(list, x)
	}
	return list
}

// hasBelow tells whether x has been put there, or is above what has. It looks at blocks that together have all numbers
// up to x's own.
func (f *floor) hasBelow(x piles) bool {
	for i := x[0]; i >= f.least[0]; i -= size(i) {
		for j := x[1]; j >= f.least[1]; j -= size(j) {
			if f.blocks[pair{i, j}].hasBelow(pair{x[2], x[3]}) {
				return true
			}
		}
	}
	return false
}

// hasOthersBelow tells the same of what is not x itself.
func (f *floor) hasOthersBelow(x piles) bool {
	for i := range x {
		y := x
		y[i]--
		if f.hasBelow(y) {
			return true
		}
	}
	return false
}

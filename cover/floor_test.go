package cover

import (
	"slices"
	"testing"
)

type dice uint32

func (x *dice) roll(n int) int {
	*x = *x*1664525 + 1013904223
	return int(*x>>8) % n
}

// numbers are those of some piles, from least on.
func (x *dice) piles(least int, ranges [4]int) piles {
	var p piles
	for i := range p {
		p[i] = least + x.roll(ranges[i])
	}
	return p
}

func hasBelow(all []piles, x piles) bool {
	return slices.ContainsFunc(all, func(y piles) bool { return x.above(y) })
}

func hasOthersBelow(all []piles, x piles) bool {
	return slices.ContainsFunc(all, func(y piles) bool { return x != y && x.above(y) })
}

// S3, S4: a floor tells what a look at all that it was given tells, also of numbers in many blocks, and below 0.
func TestFloor(t *testing.T) {
	x := dice(1)
	for _, ranges := range [][4]int{
		{3, 3, 3, 3}, {20, 20, 20, 20}, {300, 9, 9, 9}, {9, 300, 9, 9}, {9, 9, 300, 300}, {3000, 3000, 9, 9},
		{3000, 3000, 3000, 3000}, {1, 1, 50, 50}, {50, 1, 1, 1}, {1, 50, 1, 50}, {520, 520, 2, 2},
	} {
		for _, least := range []int{0, -3000, -150, -256, 256, 1} {
			var f floor
			var all []piles
			for range 300 {
				p := x.piles(least, ranges)
				if f.hasBelow(p) != hasBelow(all, p) || f.hasOthersBelow(p) != hasOthersBelow(all, p) {
					t.Fatal(all, p)
				}
				if x.roll(3) > 0 {
					f.put(p)
					all = append(all, p)
				}
			}
			for _, p := range all {
				if !f.hasBelow(p) || f.hasOthersBelow(p) != hasOthersBelow(all, p) {
					t.Fatal(all, p)
				}
			}
		}
	}
}

// S3, S4: a floor that was given one alone, at the ends of blocks, holds what is above that one, and nothing else.
func TestFloorOfOne(t *testing.T) {
	ends := []int{-513, -512, -511, -257, -256, -255, -128, -1, 0, 1, 2, 127, 128, 255, 256, 257, 511, 512, 513, 1024}
	for _, a := range ends {
		for _, b := range ends {
			for _, p := range []piles{{a, 7, 0, 0}, {7, a, 0, 0}, {-7, a, 0, 0}, {0, 0, a, 7}, {0, 0, 7, a}, {a, a, a, a}} {
				var f floor
				f.put(p)
				for _, q := range []piles{{b, 7, 0, 0}, {7, b, 0, 0}, {-7, b, 0, 0}, {0, 0, b, 7}, {0, 0, 7, b}, {b, b, b, b}} {
					if f.hasBelow(q) != q.above(p) || f.hasOthersBelow(q) != (q != p && q.above(p)) {
						t.Fatal(p, q)
					}
				}
			}
		}
	}
}

// S3: what stays on stairs is above nothing else there.
func TestStairs(t *testing.T) {
	x := dice(2)
	for range 300 {
		var l stairs
		for range 40 {
			l = l.with(pair{x.roll(20), x.roll(20)})
			for i := 1; i < len(l); i++ {
				if l[i][0] <= l[i-1][0] || l[i][1] >= l[i-1][1] {
					t.Fatal(l)
				}
			}
		}
	}
}

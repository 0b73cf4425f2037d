package weigh

import "slices"

// primes answers the 27 greatest primes below 2 to the 31. Rows are new to one another just if some square of numbers
// out of them has a determinant other than 0. Of what walks look at, no determinant is 2 to the 824 in size, or more:
// there are at most 16 rows of 16 numbers, the rows of words of at most 0, 1, .. 15 letters, and a number of the row of
// n letters is at most 9 times 72 to the n (Hadamard); 8 rows of 8 weights of words of at most 14 letters make less.
// All primes multiplied are more than that: by one of them at least a determinant other than 0 is other than 0, too.
func primes() []int64 {
	return []int64{
		2147483647, 2147483629, 2147483587, 2147483579, 2147483563, 2147483549, 2147483543, 2147483497, 2147483489,
		2147483477, 2147483423, 2147483399, 2147483353, 2147483323, 2147483269, 2147483249, 2147483237, 2147483179,
		2147483171, 2147483137, 2147483123, 2147483077, 2147483069, 2147483059, 2147483053, 2147483033, 2147483029,
	}
}

// A span holds rows that are new to one another, by each prime by which they are so.
type span []stairs

func nothingSeen() span {
	var s span
	for _, p := range primes() {
		s = append(s, stairs{prime: p})
	}
	return s
}

// adds takes a row that is no sum of multiples of those before; or it tells that it is one, and does nothing. It is new
// if it is so by one prime; by those by which it is not, no later ones will be new to all that is there.
func (s *span) adds(row []number) bool {
	var still span
	for _, by := range *s {
		if by.adds(row) {
			still = append(still, by)
		}
	}
	if len(still) == 0 {
		return false
	}
	*s = still
	return true
}

// Stairs are rows by what is left of their numbers beyond multiples of a prime; each one has only 0 at the places of
// those before it.
type stairs struct {
	prime int64
	rows  []stair
}

// A stair has the first number other than 0 at its place.
type stair struct {
	place int
	row   []int64
}

func (s *stairs) adds(row []number) bool {
	left := make([]int64, len(row))
	for i, n := range row {
		left[i] = n.modulo(s.prime)
	}
	for _, r := range s.rows {
		s.level(left, r)
	}
	at := slices.IndexFunc(left, func(x int64) bool { return x != 0 })
	if at < 0 {
		return false
	}
	s.rows = append(s.rows, stair{at, left})
	return true
}

// level brings a row to 0 at the place of a stair. Two products, of numbers below 2 to the 31 in size, are together
// within what an int64 holds.
func (s *stairs) level(row []int64, by stair) {
	times, less := by.row[by.place], row[by.place]
	for i, x := range row {
		row[i] = (x*times - by.row[i]*less) % s.prime
	}
}

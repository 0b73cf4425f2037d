package weigh

import (
	"math/big"
	"slices"
	"testing"
)

func power(x, n int64) *big.Int { return new(big.Int).Exp(big.NewInt(x), big.NewInt(n), nil) }

// R3, R4: the primes are primes, no two are the same, and together they are more than any determinant can be.
func TestPrimes(t *testing.T) {
	together := big.NewInt(1)
	for i, p := range primes() {
		if p >= 1<<31 || !big.NewInt(p).ProbablyPrime(20) || slices.Index(primes(), p) != i {
			t.Error(i, p)
		}
		together.Mul(together, big.NewInt(p))
	}
	// 16 rows, each of which is no longer than 4 times its greatest number: 9 times 72 to the number of letters.
	rows := new(big.Int).Mul(power(36, 16), power(72, 120))
	// 8 rows, each of which is no longer than 3 times its greatest number: what a word of 14 letters can weigh.
	weights := new(big.Int).Exp(new(big.Int).Mul(big.NewInt(3*9*9*8), power(72, 14)), big.NewInt(8), nil)
	if together.Cmp(rows) <= 0 || together.Cmp(weights) <= 0 {
		t.Error("too few:", together)
	}
}

// exact has the parts of a number.
func exact(x *big.Int) number {
	n := number{}
	for i := range parts {
		part := new(big.Int)
		x, part = new(big.Int).DivMod(x, big.NewInt(base), part)
		n[i] = part.Int64()
	}
	if x.Sign() < 0 {
		n[parts-1] -= base
	}
	return n
}

// multiple answers the primes of some places, multiplied.
func multiple(from, to int) *big.Int {
	x := big.NewInt(1)
	for _, p := range primes()[from:to] {
		x.Mul(x, big.NewInt(p))
	}
	return x
}

// R2: numbers are written as they are.
func TestDigits(t *testing.T) {
	for n := range int64(117) {
		for _, x := range []*big.Int{power(10, n), new(big.Int).Sub(power(10, n), big.NewInt(1)), power(9, n), power(7, n)} {
			for _, y := range []*big.Int{x, new(big.Int).Neg(x)} {
				if got := exact(y).digits(); got != y.String() {
					t.Error(got, y)
				}
				for _, p := range primes() {
					left := new(big.Int).Mod(big.NewInt(exact(y).modulo(p)), big.NewInt(p))
					if left.Cmp(new(big.Int).Mod(y, big.NewInt(p))) != 0 {
						t.Error(y, p, left)
					}
				}
			}
		}
	}
}

// R3, R4: a row is new where it is by one prime alone, whichever.
func TestNewByOnePrime(t *testing.T) {
	one, none := exact(big.NewInt(1)), number{}
	for _, p := range primes() {
		s := nothingSeen()
		rows := [][]number{{one, none, none, none}}
		for from := 0; from < 27; from += 9 {
			x := multiple(from, from+9)
			if new(big.Int).Rem(x, big.NewInt(p)).Sign() == 0 {
				x.Div(x, big.NewInt(p))
			}
			row := []number{one, none, none, none}
			row[1+from/9] = exact(x)
			rows = append(rows, row)
		}
		for i, row := range rows {
			if !s.adds(row) || len(s) > 27-9*i+1 {
				t.Fatal(p, "not new:", i, len(s))
			}
			if s.adds(row) {
				t.Fatal(p, "new again:", i)
			}
		}
		if len(s) != 1 || s[0].prime != p {
			t.Error(p, len(s))
		}
	}
}

// R3, R4: sums of multiples are not new; nor is a row of 0.
func TestNotNew(t *testing.T) {
	s := nothingSeen()
	if s.adds(nil) || s.adds(numbers([]int{0, 0, 0})) {
		t.Error("new: 0")
	}
	for i, x := range []struct {
		row   []int
		isNew bool
	}{
		{[]int{0, 2, 4}, true},
		{[]int{0, -3, -6}, false},
		{[]int{0, 1, 2}, false},
		{[]int{5, 1, 1}, true},
		{[]int{5, 2, 3}, false},
		{[]int{-10, 0, 2}, false},
		{[]int{5, 2, 4}, true},
		{[]int{1, 0, 0}, false},
		{[]int{7, 8, 9}, false},
	} {
		if s.adds(numbers(x.row)) != x.isNew {
			t.Error(i, x.row, !x.isNew)
		}
	}
}

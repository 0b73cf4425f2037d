package weigh

import (
	"slices"
	"strconv"
	"strings"
)

// Numbers have room for what words weigh: of n states, that is in size at most 9 to the 62 times 8 to the 61, which
// has 115 digits.
const (
	base       = 1_000_000_000
	baseDigits = 9
	parts      = 13
)

// A number is its parts, times 1, base, base times base, and so on. All parts are from 0 on and below base, but that
// the last one is below 0 where the number is: so there is one form of each number.
type number [parts]int64

func numbers(row []int) []number {
	out := make([]number, len(row))
	for i, x := range row {
		out[i] = number{int64(x)}.carried()
	}
	return out
}

// carried brings parts that have become too large, or too small, into form.
func (n number) carried() number {
	for i := range parts - 1 {
		over := n[i] / base
		if n[i]%base < 0 {
			over--
		}
		n[i] -= over * base
		n[i+1] += over
	}
	return n
}

// total adds up the numbers of a row, each so many times. A part is at most 16 times 9 times base then, which is
// little.
func total(row []number, times []int) number {
	sum := number{}
	for i, n := range row {
		for k, part := range n {
			sum[k] += part * int64(times[i])
		}
	}
	return sum.carried()
}

func (n number) digits() string {
	if n[parts-1] < 0 {
		return "-" + total([]number{n}, []int{-1}).digits()
	}
	text := ""
	for _, part := range n {
		some := strconv.FormatInt(part, 10)
		text = strings.Repeat("0", baseDigits-len(some)) + some + text
	}
	text = strings.TrimLeft(text, "0")
	if text == "" {
		return "0"
	}
	return text
}

// modulo answers what is left of a number beyond a multiple of a prime; that may be below 0, too.
func (n number) modulo(prime int64) int64 {
	left := int64(0)
	for _, part := range slices.Backward(n[:]) {
		left = (left*base + part) % prime
	}
	return left
}

package det

import (
	"strconv"
	"strings"

	"evermore/api"
)

// A tally is high times half and low, low being below half. The greatest number of words, MaxLetters to the
// MaxWord, has 37 digits: high has room enough.
type tally struct{ high, low uint64 }

const (
	half       = 1000000000000000000
	halfDigits = 18
)

func (t tally) plus(u tally) tally {
	sum := tally{t.high + u.high, t.low + u.low}
	if sum.low >= half {
		sum.high++
		sum.low -= half
	}
	return sum
}

func (t tally) digits() string {
	low := strconv.FormatUint(t.low, 10)
	if t.high == 0 {
		return low
	}
	return strconv.FormatUint(t.high, 10) + strings.Repeat("0", halfDigits-len(low)) + low
}

// accepted counts, letter by letter, the words that lead to each state.
func accepted(d api.Det, n int) tally {
	words := make([]tally, len(d.Next))
	words[d.Start] = tally{0, 1}
	for range n {
		longer := make([]tally, len(d.Next))
		for s, row := range d.Next {
			for _, t := range row {
				longer[t] = longer[t].plus(words[s])
			}
		}
		words = longer
	}
	sum := tally{}
	for s, m := range d.Mark {
		if m == 1 {
			sum = sum.plus(words[s])
		}
	}
	return sum
}

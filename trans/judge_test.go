package trans_test

import (
	"fmt"
	"slices"
	"strings"
	"testing"

	"evermore/api"
	"evermore/trans"
)

// letters reads a row of letters: ab is 0 1, - is none.
func letters(text string) []int {
	var out []int
	for _, b := range []byte(strings.Trim(text, "-")) {
		out = append(out, int(b-'a'))
	}
	return out
}

// read reads a transducer that starts at 0: what it says first; of each state what it says to each letter, and the next
// state, then what it says at the end: ab>1 -.
func read(out int, first string, states ...string) api.Trans {
	t := api.Trans{Out: out, First: letters(first)}
	for _, row := range states {
		fields := strings.Fields(row)
		var next []int
		var says [][]int
		for _, f := range fields[:len(fields)-1] {
			say, to, _ := strings.Cut(f, ">")
			next, says = append(next, int(to[0]-'0')), append(says, letters(say))
		}
		t.In, t.Next, t.Says = len(next), append(t.Next, next), append(t.Says, says)
		t.Last = append(t.Last, letters(fields[len(fields)-1]))
	}
	return t
}

// show writes what a transducer is, whether its empty lists are nil or not.
func show(t api.Trans) string {
	return fmt.Sprint(t.In, t.Out, t.Start, t.First, t.Next, t.Says, t.Last)
}

func empty(t api.Trans) bool { return show(t) == show(api.Trans{}) }

// words answers all of up to so many letters, the first ones first.
func words(in, most int) [][]int {
	out := [][]int{nil}
	for i := 0; i < len(out) && len(out[i]) < most; i++ {
		for l := range in {
			out = append(out, append(slices.Clone(out[i]), l))
		}
	}
	return out
}

// say is what is said to words of any length.
func say(t api.Trans, w []int) []int {
	out, at := slices.Clone(t.First), t.Start
	for _, l := range w {
		out = append(out, t.Says[at][l]...)
		at = t.Next[at][l]
	}
	return append(out, t.Last[at]...)
}

// first answers the first of the words of up to so many letters to which unlike things are said.
func first(t, u api.Trans, most int) ([]int, bool) {
	for _, w := range words(t.In, most) {
		if !slices.Equal(say(t, w), say(u, w)) {
			return w, true
		}
	}
	return nil, false
}

// A hearer knows nothing of a transducer but what is said to words.
type hearer struct {
	in    int
	tails [][]int // all that it puts behind a word, the empty one first
	says  func([]int) []int
}

// hears answers, of a word, with what all begins that is said to it, whatever comes behind it; what is said to it alone
// beyond that; and what is said beyond that, whatever comes behind it, in writing. Words with the same rest lead to one
// state.
func (h hearer) hears(w []int) (sure, last []int, rest string) {
	var all [][]int
	for _, v := range h.tails {
		all = append(all, h.says(slices.Concat(w, v)))
	}
	n := len(all[0])
	for _, x := range all {
		n = min(n, len(x))
		for i := range n {
			if x[i] != all[0][i] {
				n = i
				break
			}
		}
	}
	var b strings.Builder
	for _, x := range all {
		for _, l := range x[n:] {
			b.WriteByte(byte('a' + l))
		}
		b.WriteByte(' ')
	}
	return all[0][:n], all[0][n:], b.String()
}

// least answers the least one by what is said alone: it is right if the tails are long enough.
func (h hearer) least(out int) api.Trans {
	type place struct{ word, sure, last []int }
	sure, last, rest := h.hears(nil)
	t := api.Trans{In: h.in, Out: out, First: sure}
	come, number := []place{{nil, sure, last}}, map[string]int{rest: 0}
	for i := 0; i < len(come); i++ {
		var next []int
		var says [][]int
		for l := range h.in {
			v := append(slices.Clone(come[i].word), l)
			sure, last, rest := h.hears(v)
			if _, known := number[rest]; !known {
				number[rest] = len(come)
				come = append(come, place{v, sure, last})
			}
			next, says = append(next, number[rest]), append(says, sure[len(come[i].sure):])
		}
		t.Next, t.Says, t.Last = append(t.Next, next), append(t.Says, says), append(t.Last, come[i].last)
	}
	return t
}

// tooMuch tells whether it goes beyond the limits.
func tooMuch(t api.Trans) bool {
	many := len(t.Next) > 6 || len(t.First) > 8
	for s := range t.Next {
		many = many || len(t.Last[s]) > 8
		for _, x := range t.Says[s] {
			many = many || len(x) > 8
		}
	}
	return many
}

// hear sees that an answer is the least one of what is said, as far as tails of so many letters tell. It answers
// whether there is one within the limits.
func hear(t *testing.T, name any, in, out, far int, says func([]int) []int, got api.Trans, e api.Errno) bool {
	t.Helper()
	want := hearer{in, words(in, far), says}.least(out)
	if tooMuch(want) {
		if e != api.ErrFull || !empty(got) {
			t.Fatalf("%v: %v, %v, not ErrFull: %v", name, got, e, want)
		}
		return false
	}
	if e != api.OK || show(got) != show(want) {
		t.Fatalf("%v: %v, %v, not %v", name, got, e, want)
	}
	return true
}

// hearLeast holds Least against what is said alone.
func hearLeast(t *testing.T, x api.Trans, far int) bool {
	t.Helper()
	l, e := trans.Least(x)
	return hear(t, x, x.In, x.Out, far, func(w []int) []int { return say(x, w) }, l, e)
}

func hearBehind(t *testing.T, x, y api.Trans, far int) bool {
	t.Helper()
	l, e := trans.Behind(x, y)
	says := func(w []int) []int { return say(y, say(x, w)) }
	return hear(t, []api.Trans{x, y}, x.In, y.Out, far, says, l, e)
}

// holdDiffer sees that the first word is answered, of those of up to so many letters.
func holdDiffer(t *testing.T, x, y api.Trans, most int) bool {
	t.Helper()
	w, differ, e := trans.Differ(x, y)
	v, want := first(x, y, most)
	if e != api.OK || differ != want || !slices.Equal(w, v) {
		t.Fatalf("%v, %v: %v, %v, %v, not %v, %v", x, y, w, differ, e, v, want)
	}
	return differ
}

// The judges themselves: what they know of some by hand.
func TestJudges(t *testing.T) {
	x := read(2, "a", "b>1 -", "ab>0 bb")
	for w, want := range []string{"a", "abbb", "abab", "ababbbb", "ababbab"} {
		if got := say(x, make([]int, w)); !slices.Equal(got, letters(want)) {
			t.Error(w, got, want)
		}
	}
	y := read(2, "a", "b>1 -", "ab>2 bb", "b>1 b")
	if w, differ := first(x, y, 5); !differ || len(w) != 2 {
		t.Error(w, differ)
	}
	if w, differ := first(x, y, 1); differ || len(w) != 0 {
		t.Error(w, differ)
	}
	later := read(1, "-", "a>1 a", "a>0 a")
	h := hearer{1, words(1, 5), func(w []int) []int { return say(later, w) }}
	if l := h.least(1); show(l) != show(read(1, "a", "a>0 -")) {
		t.Error(l)
	}
	if got := words(2, 2); fmt.Sprint(got) != "[[] [0] [1] [0 0] [0 1] [1 0] [1 1]]" {
		t.Error(got)
	}
	if !tooMuch(read(1, "aaaaaaaaa", "a>0 -")) || tooMuch(read(1, "aaaaaaaa", "aaaaaaaa>0 aaaaaaaa")) {
		t.Error("limits")
	}
}

// dice is a row of numbers that looks like chance, and is the same each time.
type dice uint32

func (x *dice) roll(n int) int {
	*x = *x*1664525 + 1013904223
	return int(*x>>8) % n
}

func (x *dice) word(letters, most int) []int {
	var out []int
	for range x.roll(most + 1) {
		out = append(out, x.roll(letters))
	}
	return out
}

// trans answers one of that size, which says at most so much at once.
func (x *dice) trans(in, out, states, most int) api.Trans {
	t := api.Trans{In: in, Out: out, Start: x.roll(states), First: x.word(out, most)}
	for range states {
		var next []int
		var says [][]int
		for range in {
			next, says = append(next, x.roll(states)), append(says, x.word(out, most))
		}
		t.Next, t.Says, t.Last = append(t.Next, next), append(t.Says, says), append(t.Last, x.word(out, most))
	}
	return t
}

// copied shares nothing with t.
func copied(t api.Trans) api.Trans {
	t.First = slices.Clone(t.First)
	t.Next, t.Says, t.Last = slices.Clone(t.Next), slices.Clone(t.Says), slices.Clone(t.Last)
	for s := range t.Next {
		t.Next[s], t.Says[s], t.Last[s] = slices.Clone(t.Next[s]), slices.Clone(t.Says[s]), slices.Clone(t.Last[s])
		for l := range t.Says[s] {
			t.Says[s][l] = slices.Clone(t.Says[s][l])
		}
	}
	return t
}

// disguised says the same to each word, by other means: a state is there twice, or says later what it said.
func (x *dice) disguised(t api.Trans) api.Trans {
	t = copied(t)
	for range 4 {
		if len(t.Next) < 6 && x.roll(2) == 0 {
			x.double(&t)
		} else {
			x.delay(&t)
		}
	}
	return t
}

func (x *dice) double(t *api.Trans) {
	n, s := len(t.Next), x.roll(len(t.Next))
	u := copied(*t)
	t.Next, t.Says, t.Last = append(t.Next, u.Next[s]), append(t.Says, u.Says[s]), append(t.Last, u.Last[s])
	for _, row := range t.Next {
		for l := range row {
			if row[l] == s && x.roll(2) == 0 {
				row[l] = n
			}
		}
	}
	if t.Start == s && x.roll(2) == 0 {
		t.Start = n
	}
}

// delay lets a state say itself what is said by whatever leads to it, if that ends with one letter.
func (x *dice) delay(t *api.Trans) {
	s := x.roll(len(t.Next))
	var into []*[]int
	if t.Start == s {
		into = append(into, &t.First)
	}
	from := []*[]int{&t.Last[s]}
	for p, row := range t.Next {
		for l, q := range row {
			if q == s {
				into = append(into, &t.Says[p][l])
			}
			if p == s {
				from = append(from, &t.Says[p][l])
			}
		}
	}
	for _, say := range into {
		if len(*say) == 0 || (*say)[len(*say)-1] != (*into[0])[len(*into[0])-1] {
			return
		}
	}
	if len(into) == 0 || slices.ContainsFunc(from, func(say *[]int) bool { return len(*say) == 8 }) {
		return
	}
	c := (*into[0])[len(*into[0])-1]
	for _, say := range into {
		*say = (*say)[:len(*say)-1]
	}
	for _, say := range from {
		*say = append([]int{c}, *say...)
	}
}

// changed is unlike in one thing, or in what cannot be seen.
func (x *dice) changed(t api.Trans) api.Trans {
	t = copied(t)
	s, l := x.roll(len(t.Next)), x.roll(t.In)
	switch x.roll(3) {
	case 0:
		t.Next[s][l] = x.roll(len(t.Next))
	case 1:
		t.Says[s][l] = x.word(t.Out, 3)
	default:
		t.Last[s] = x.word(t.Out, 3)
	}
	return t
}

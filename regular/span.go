package regular

import (
	"math/bits"

	"evermore/api"
)

// A span says of each place of a word at which places a part can end that begins there, a bit each: a word has
// at most MaxWord + 1 places, fewer than a number has bits. Each part is looked at once, so that
// stars within stars cost no more than stars side by side.
type span [api.MaxWord + 1]uint64

func (s *span) leads(from, to int) bool {
	return s[from]>>to&1 == 1
}

func spanOf(p part, w []int) *span {
	switch x := p.(type) {
	case letter:
		return spanOfLetter(int(x), w)
	case either:
		return spanOfEither(x, w)
	case row:
		return spanOfRow(x, w)
	case star:
		return again(spanOf(x.of, w), len(w))
	}
	return &span{}
}

func spanOfLetter(l int, w []int) *span {
	out := &span{}
	for i, x := range w {
		if x == l {
			out[i] = 1 << (i + 1)
		}
	}
	return out
}

func spanOfEither(all either, w []int) *span {
	out := &span{}
	for _, p := range all {
		s := spanOf(p, w)
		for i := range len(w) + 1 {
			out[i] |= s[i]
		}
	}
	return out
}

func spanOfRow(all row, w []int) *span {
	out := &span{}
	for i := range len(w) + 1 {
		out[i] = 1 << i
	}
	for _, p := range all {
		s := spanOf(p, w)
		for i := range len(w) + 1 {
			out[i] = s.after(out[i])
		}
	}
	return out
}

func (s *span) after(places uint64) uint64 {
	out := uint64(0)
	for ; places != 0; places &= places - 1 {
		out |= s[bits.TrailingZeros64(places)]
	}
	return out
}

// again goes from the last place to the first: what a part leads to lies ahead, and is known by then
// (or is the place itself, which says nothing yet, and has nothing to add).
func again(once *span, last int) *span {
	out := &span{}
	for i := last; i >= 0; i-- {
		out[i] = 1<<i | out.after(once[i])
	}
	return out
}

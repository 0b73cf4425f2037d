// Package word knows words, and words without an end, told by lassos: see doc/01-word.md.
package word

import (
	"slices"

	"evermore/api"
)

// May tells whether w is a word over so many letters.
func May(letters int, w []int) api.Errno {
	if letters < 1 || letters > api.MaxLetters {
		return api.ErrRange
	}
	if len(w) > api.MaxWord {
		return api.ErrSize
	}
	for _, x := range w {
		if x < 0 || x >= letters {
			return api.ErrRange
		}
	}
	return api.OK
}

// Lasso tells whether l is a lasso over so many letters.
func Lasso(letters int, l api.Lasso) api.Errno {
	if e := May(letters, l.Head); e != api.OK {
		return e
	}
	if e := May(letters, l.Loop); e != api.OK {
		return e
	}
	if len(l.Loop) == 0 {
		return api.ErrSize
	}
	return api.OK
}

// At answers the letter at the place n of the infinite word.
func At(l api.Lasso, n int) (int, api.Errno) {
	if e := placed(l, n); e != api.OK {
		return 0, e
	}
	return letter(l, n), api.OK
}

// Normal answers the lasso of the same infinite word with the shortest head, and then the shortest loop.
func Normal(l api.Lasso) (api.Lasso, api.Errno) {
	if e := Lasso(api.MaxLetters, l); e != api.OK {
		return api.Lasso{}, e
	}
	return shortest(l), api.OK
}

// Rest answers the normal lasso of the infinite word without its first n letters.
func Rest(l api.Lasso, n int) (api.Lasso, api.Errno) {
	if e := placed(l, n); e != api.OK {
		return api.Lasso{}, e
	}
	return shortest(without(l, n)), api.OK
}

// Same tells whether two lassos are of one infinite word.
func Same(a, b api.Lasso) (bool, api.Errno) {
	if e := Lasso(api.MaxLetters, a); e != api.OK {
		return false, e
	}
	if e := Lasso(api.MaxLetters, b); e != api.OK {
		return false, e
	}
	x, y := shortest(a), shortest(b)
	return slices.Equal(x.Head, y.Head) && slices.Equal(x.Loop, y.Loop), api.OK
}

func placed(l api.Lasso, n int) api.Errno {
	if e := Lasso(api.MaxLetters, l); e != api.OK {
		return e
	}
	if n < 0 {
		return api.ErrRange
	}
	return api.OK
}

func letter(l api.Lasso, n int) int {
	if n < len(l.Head) {
		return l.Head[n]
	}
	return l.Loop[(n-len(l.Head))%len(l.Loop)]
}

// piece answers new memory, so that no answer shares any with what was handed in.
func piece(l api.Lasso, from, many int) []int {
	out := make([]int, many)
	for i := range many {
		out[i] = letter(l, from+i)
	}
	return out
}

// shortest leans on this: once the loop is of the least period, there is one lasso for each place
// from which on the word repeats, so the earliest such place has the one that is wanted.
func shortest(l api.Lasso) api.Lasso {
	p := period(l.Loop)
	n := repeatsFrom(l, p)
	return api.Lasso{Head: piece(l, 0, n), Loop: piece(l, n, p)}
}

func period(loop []int) int {
	for less := range len(loop) - 1 {
		if p := less + 1; len(loop)%p == 0 && hasPeriod(loop, p) {
			return p
		}
	}
	return len(loop)
}

func hasPeriod(loop []int, p int) bool {
	for i := range len(loop) - p {
		if loop[i] != loop[i+p] {
			return false
		}
	}
	return true
}

// repeatsFrom goes from the head's end to its beginning, as long as each letter comes again p places later.
func repeatsFrom(l api.Lasso, p int) int {
	for back := range len(l.Head) {
		n := len(l.Head) - back
		if letter(l, n-1) != letter(l, n-1+p) {
			return n
		}
	}
	return 0
}

// without brings n back into the first loop, lest the places behind it go beyond the largest int.
func without(l api.Lasso, n int) api.Lasso {
	if n < len(l.Head) {
		return api.Lasso{Head: l.Head[n:], Loop: l.Loop}
	}
	turn := (n - len(l.Head)) % len(l.Loop)
	return api.Lasso{Loop: piece(l, len(l.Head)+turn, len(l.Loop))}
}

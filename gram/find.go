package gram

import (
	"slices"

	"evermore/api"
)

// A walk is what words lead along: so many places, and where a letter leads from one of them.
type walk struct {
	places int
	next   func(place, letter int) (int, bool)
}

// alongWord has the places between the letters of a word: what leads from the first to the last is that word.
func alongWord(w []int) walk {
	return walk{len(w) + 1, func(place, letter int) (int, bool) {
		return place + 1, place < len(w) && w[place] == letter
	}}
}

func alongDet(d api.Det) walk {
	return walk{len(d.Next), func(place, letter int) (int, bool) { return d.Next[place][letter], true }}
}

// alongAny has one place, to which any word leads.
func alongAny() walk {
	return walk{1, func(int, int) (int, bool) { return 0, true }}
}

// alongMore has a place to which no letters lead, and one to which some do.
func alongMore() walk {
	return walk{2, func(int, int) (int, bool) { return 1, true }}
}

// A record says what is kept of how one comes to a word: numbers one behind the other, at most so many.
type record struct {
	most         int
	rule, letter func(int) []int
}

func rulesUpTo(most int) record { return record{most, itself, nothing} }

func lettersUpTo(most int) record { return record{most, nothing, itself} }

func itself(x int) []int { return []int{x} }

func nothing(int) []int { return nil }

// A piece is a name, and the places from which and to which a word leads that one comes to from it.
type piece [3]int

// Of each piece that there is the first record. Those with more numbers than may be are all kept as one: what has such
// a one within it has too many itself.
type finds map[piece][]int

type finder struct {
	api.Grammar
	walk
	record
	finds
	tooLong []int
	room    []int // where records are put together
}

// find answers the first records of all pieces. It has an end: one that has a piece within itself is no earlier than
// that one, so those that matter are no deeper than there are pieces.
func find(g api.Grammar, w walk, r record) finds {
	f := finder{Grammar: g, walk: w, record: r, finds: finds{}, tooLong: make([]int, r.most+1)}
	for f.grow() {
	}
	return f.finds
}

// grow does each rule at each place, with what is known yet, and tells whether something is new, or earlier. To put
// earlier records in the place of later ones makes the whole earlier, so the first ones come of first ones.
func (f *finder) grow() bool {
	grew := false
	parts := make([][]int, 0, 1+maxTo)
	for r, m := range f.Makes {
		for from := range f.places {
			f.lead(m.To, from, append(parts, f.rule(r)), func(to int, parts [][]int) {
				if f.keep(piece{m.From, from, to}, parts) {
					grew = true
				}
			})
		}
	}
	return grew
}

// lead goes by signs from a place on, and on by then wherever they lead, with a part of the record for each of them.
func (f *finder) lead(signs []int, from int, parts [][]int, then func(to int, parts [][]int)) {
	if len(signs) == 0 {
		then(from, parts)
		return
	}
	f.over(signs[0], from, func(to int, part []int) {
		f.lead(signs[1:], to, append(parts, part), then)
	})
}

func (f *finder) over(sign, from int, then func(to int, part []int)) {
	if sign < f.Letters {
		if to, is := f.next(from, sign); is {
			then(to, f.letter(sign))
		}
		return
	}
	for to := range f.places {
		if part, known := f.finds[piece{sign - f.Letters, from, to}]; known {
			then(to, part)
		}
	}
}

// keep tells whether the record is the first one of its piece so far.
func (f *finder) keep(p piece, parts [][]int) bool {
	long := 0
	for _, part := range parts {
		long += len(part)
	}
	known, is := f.finds[p]
	if is && len(known) < long {
		return false
	}
	row := f.tooLong
	if long <= f.most {
		row = f.together(parts)
	}
	if is && !before(row, known) {
		return false
	}
	f.finds[p] = slices.Clone(row)
	return true
}

func (f *finder) together(parts [][]int) []int {
	f.room = f.room[:0]
	for _, part := range parts {
		f.room = append(f.room, part...)
	}
	return f.room
}

// before compares as words are compared (C2).
func before(v, w []int) bool {
	if len(v) != len(w) {
		return len(v) < len(w)
	}
	return slices.Compare(v, w) < 0
}

// answer tells the first record of all those of some pieces, if there is one.
func (x finds) answer(most int, pieces ...piece) ([]int, bool, api.Errno) {
	var first []int
	some := false
	for _, p := range pieces {
		if row, known := x[p]; known && (!some || before(row, first)) {
			first, some = row, true
		}
	}
	if len(first) > most {
		return nil, false, api.ErrFull
	}
	return first, some, api.OK
}

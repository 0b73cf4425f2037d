package regular

import "evermore/api"

// A part is a letter, an either, a row or a star. The text 0 is an either of nothing, 1 a row of nothing.
type part any

type letter int

type either []part

type row []part

type star struct{ of part }

// What a reader gives up with: the byte at which it does.
type (
	misplaced int
	tooDeep   int
)

type reader struct {
	text     string
	at, deep int
}

func parse(text string) (whole part, fault api.Fault) {
	if len(text) > api.MaxText {
		return nil, api.Fault{Code: api.ErrSize}
	}
	defer func() {
		switch gaveUp := recover().(type) {
		case misplaced:
			fault = api.Fault{Code: api.ErrSyntax, At: int(gaveUp)}
		case tooDeep:
			fault = api.Fault{Code: api.ErrFull, At: int(gaveUp)}
		}
	}()
	r := &reader{text: text}
	read := r.either()
	if r.at < len(text) {
		panic(misplaced(r.at))
	}
	return read, api.Fault{}
}

// peek answers 0 at the end: a byte that can stand nowhere.
func (r *reader) peek() byte {
	if r.at == len(r.text) {
		return 0
	}
	return r.text[r.at]
}

func (r *reader) either() part {
	all := either{r.row()}
	for r.peek() == '+' {
		r.at++
		all = append(all, r.row())
	}
	if len(all) == 1 {
		return all[0]
	}
	return all
}

func (r *reader) row() part {
	all := row{r.one()}
	for begins(r.peek()) {
		all = append(all, r.one())
	}
	if len(all) == 1 {
		return all[0]
	}
	return all
}

func begins(b byte) bool {
	return b == '0' || b == '1' || b == '(' || 'a' <= b && b <= 'd'
}

// one takes any number of stars for a single one: they tell the same words.
func (r *reader) one() part {
	p := r.part()
	if r.peek() != '*' {
		return p
	}
	for r.peek() == '*' {
		r.at++
	}
	return star{of: p}
}

func (r *reader) part() part {
	b := r.peek()
	if !begins(b) {
		panic(misplaced(r.at))
	}
	if b == '(' {
		return r.bracket()
	}
	r.at++
	switch b {
	case '0':
		return either{}
	case '1':
		return row{}
	}
	return letter(b - 'a')
}

func (r *reader) bracket() part {
	if r.deep == api.MaxNest {
		panic(tooDeep(r.at))
	}
	r.at++
	r.deep++
	p := r.either()
	if r.peek() != ')' {
		panic(misplaced(r.at))
	}
	r.at++
	r.deep--
	return p
}

package time

import "evermore/api"

// A reader goes through a text from the left, and gives up at the first fault.
type reader struct {
	text               string
	at                 int
	deep, nodes, times int
}

func read(text string) (whole *node, fault api.Fault) {
	if len(text) > api.MaxText {
		return nil, api.Fault{Code: api.ErrSize}
	}
	defer func() {
		if gaveUp, is := recover().(api.Fault); is {
			whole, fault = nil, gaveUp
		}
	}()
	r := &reader{text: text}
	whole = r.formula()
	if r.at < len(text) {
		panic(r.fault(api.ErrSyntax))
	}
	return whole, api.Fault{}
}

func (r *reader) fault(e api.Errno) api.Fault {
	return api.Fault{Code: e, At: r.at}
}

// peek answers 0 at the end: a byte that can stand nowhere.
func (r *reader) peek() byte {
	if r.at == len(r.text) {
		return 0
	}
	return r.text[r.at]
}

func isTime(b byte) bool {
	switch b {
	case 'X', 'F', 'G', 'U', 'R':
		return true
	}
	return false
}

// count goes on behind a byte that can stand there, and is no bracket.
func (r *reader) count() {
	r.nodes++
	if isTime(r.peek()) {
		r.times++
	}
	if r.nodes > api.MaxNodes || r.times > api.MaxTimes {
		panic(r.fault(api.ErrFull))
	}
	r.at++
}

func (r *reader) formula() *node {
	left := r.term()
	for r.peek() == '|' {
		r.count()
		left = &node{kind: either, left: left, right: r.term()}
	}
	return left
}

func (r *reader) term() *node {
	left := r.part()
	for r.peek() == '&' {
		r.count()
		left = &node{kind: both, left: left, right: r.part()}
	}
	return left
}

func (r *reader) part() *node {
	left := r.one()
	switch r.peek() {
	case 'U':
		r.count()
		return &node{kind: until, left: left, right: r.part()}
	case 'R':
		r.count()
		return release(left, r.part())
	}
	return left
}

func (r *reader) one() *node {
	switch b := r.peek(); b {
	case '!', 'X', 'F', 'G':
		r.count()
		return ahead(b, r.one())
	case '(':
		return r.bracket()
	case 'p', 'q', '0', '1':
		r.count()
		return &node{kind: atom(b)}
	}
	panic(r.fault(api.ErrSyntax))
}

// ahead answers the node of an operator that stands ahead of another one.
func ahead(b byte, n *node) *node {
	switch b {
	case 'X':
		return &node{kind: next, left: n}
	case 'F':
		return &node{kind: until, left: &node{kind: always}, right: n}
	case 'G':
		return release(&node{kind: never}, n)
	}
	return negated(n)
}

func atom(b byte) kind {
	switch b {
	case 'p':
		return isP
	case 'q':
		return isQ
	case '1':
		return always
	}
	return never
}

func (r *reader) bracket() *node {
	if r.deep == api.MaxNest {
		panic(r.fault(api.ErrFull))
	}
	r.deep++
	r.at++
	n := r.formula()
	if r.peek() != ')' {
		panic(r.fault(api.ErrSyntax))
	}
	r.at++
	r.deep--
	return n
}

package logic

import (
	"bytes"

	"evermore/api"
)

// A reader goes through a text from the left. The first fault takes it to the end, where nothing more can stand:
// so it comes back from all that it is within, and no later fault is told.
type reader struct {
	text        string
	at          int
	nodes, deep int
	fault       api.Fault
}

func read(text string) (*node, api.Fault) {
	if len(text) > api.MaxText {
		return nil, api.Fault{Code: api.ErrSize}
	}
	r := &reader{text: text}
	whole := r.formula(nil)
	if r.at < len(text) {
		r.fail(api.ErrSyntax)
	}
	return whole, r.fault
}

func (r *reader) fail(e api.Errno) {
	if r.fault.Code == api.OK {
		r.fault = api.Fault{Code: e, At: r.at}
	}
	r.at = len(r.text)
}

// peek answers 0 at the end: a byte that can stand nowhere.
func (r *reader) peek() byte {
	if r.at == len(r.text) {
		return 0
	}
	return r.text[r.at]
}

func (r *reader) skip() {
	r.at = min(r.at+1, len(r.text))
}

// count takes the byte for the first one of a node.
func (r *reader) count() {
	r.nodes++
	if r.nodes > api.MaxNodes {
		r.fail(api.ErrFull)
	}
	r.skip()
}

func (r *reader) formula(around []byte) *node {
	left := r.term(around)
	for r.peek() == '|' {
		r.count()
		left = &node{kind: either, left: left, right: r.term(around)}
	}
	return left
}

func (r *reader) term(around []byte) *node {
	left := r.part(around)
	for r.peek() == '&' {
		r.count()
		left = &node{kind: both, left: left, right: r.part(around)}
	}
	return left
}

func (r *reader) part(around []byte) *node {
	switch r.peek() {
	case '!':
		r.count()
		return negated(r.part(around))
	case '(':
		return r.bracket(around)
	case 'E':
		return r.bound(around)
	case 'A':
		n := r.bound(around)
		n.left = negated(n.left)
		return negated(n)
	}
	return r.atom(around)
}

func negated(n *node) *node {
	return &node{kind: not, left: n}
}

func (r *reader) bracket(around []byte) *node {
	if r.deep == api.MaxNest {
		r.fail(api.ErrFull)
	}
	r.deep++
	r.skip()
	n := r.formula(around)
	if r.peek() != ')' {
		r.fail(api.ErrSyntax)
	}
	r.skip()
	r.deep--
	return n
}

// bound reads a variable, and the part for which it stands around. What stands around there has no room behind it
// here: the next part that has a variable of its own cannot write into it.
func (r *reader) bound(around []byte) *node {
	if len(around) == api.MaxVars {
		r.fail(api.ErrFull)
	}
	r.count()
	v := r.peek()
	if !isPlace(v) && !isSet(v) {
		r.fail(api.ErrSyntax)
	}
	r.skip()
	return &node{kind: some, set: isSet(v), left: r.part(append(around[:len(around):len(around)], v))}
}

func isPlace(b byte) bool { return 'x' <= b && b <= 'z' }

func isSet(b byte) bool { return 'X' <= b && b <= 'Z' }

// atom looks up a variable that an atom begins with ahead of counting the atom: of two faults at one byte, the name
// is told.
func (r *reader) atom(around []byte) *node {
	n := &node{}
	switch b := r.peek(); {
	case b == 'a' || b == 'b':
		n.kind = zero + kind(b-'a')
		r.count()
		n.a = r.place(around)
	case isSet(b):
		n.kind, n.b = within, r.named(around)
		r.count()
		n.a = r.place(around)
	case isPlace(b):
		n.a = r.named(around)
		r.count()
		n.kind = r.relation()
		n.b = r.place(around)
	default:
		r.fail(api.ErrSyntax)
	}
	return n
}

func (r *reader) place(around []byte) int {
	if !isPlace(r.peek()) {
		r.fail(api.ErrSyntax)
	}
	at := r.named(around)
	r.skip()
	return at
}

// named answers which of those around the variable is: the innermost one of that name.
func (r *reader) named(around []byte) int {
	at := bytes.LastIndexByte(around, r.peek())
	if at < 0 {
		r.fail(api.ErrName)
	}
	return at
}

func (r *reader) relation() kind {
	k := ahead
	switch r.peek() {
	case '<':
	case '=':
		k = same
	case '~':
		k = next
	default:
		r.fail(api.ErrSyntax)
	}
	r.skip()
	return k
}

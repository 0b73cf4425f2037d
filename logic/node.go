package logic

type kind int

const (
	either kind = iota
	both
	not
	some
	zero // at the place there is the letter 0
	one
	ahead
	same
	next
	within
)

// A node is a formula or a part of one. There is no kind for A: for all is not for some not, and the table of the
// one is that of the other.
type node struct {
	kind        kind
	left, right *node
	set         bool // the variable of some is one for sets
	a, b        int  // the variables of an atom, by how many stand around theirs; the set of within is b
}

// holds tells whether it is so of a word: values has the variables that stand around, a place as its number, a set
// as the bits of its places.
func (n *node) holds(w, values []int) bool {
	switch n.kind {
	case either:
		return n.left.holds(w, values) || n.right.holds(w, values)
	case both:
		return n.left.holds(w, values) && n.right.holds(w, values)
	case not:
		return !n.left.holds(w, values)
	case some:
		return n.finds(w, values)
	case zero:
		return w[values[n.a]] == 0
	case one:
		return w[values[n.a]] == 1
	case ahead:
		return values[n.a] < values[n.b]
	case same:
		return values[n.a] == values[n.b]
	case next:
		return values[n.a]+1 == values[n.b]
	}
	return values[n.b]>>values[n.a]&1 == 1
}

// finds tries all that the variable can be.
func (n *node) finds(w, values []int) bool {
	many := len(w)
	if n.set {
		many = 1 << len(w)
	}
	for v := range many {
		if n.left.holds(w, append(values[:len(values):len(values)], v)) {
			return true
		}
	}
	return false
}

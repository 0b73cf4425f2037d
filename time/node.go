package time

type kind int

const (
	never kind = iota
	always
	isP
	isQ
	not
	both
	either
	next
	until
)

// A node is a formula or a part of one. There are no kinds for F, R and G: each is told by one until, so there are
// as many nodes of time as operators of time in the text.
type node struct {
	kind        kind
	left, right *node
	bit         int // of a node of time, which bit of a guess is its own
}

func negated(n *node) *node {
	return &node{kind: not, left: n}
}

// release answers n R m.
func release(n, m *node) *node {
	return negated(&node{kind: until, left: negated(n), right: negated(m)})
}

func hasP(letter int) bool { return letter&1 != 0 }

func hasQ(letter int) bool { return letter&2 != 0 }

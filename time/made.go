package time

import (
	"cmp"
	"slices"

	"evermore/api"
)

// A maker makes an automaton that guesses (Vardi, Wolper). A guess tells of a place, a bit a node of time: of until,
// whether it is true there; of next, whether what stands behind it is. So a letter, and the guess of the next place,
// tell what is true at this place: they leave it no more than one guess. What no step can see is whether what until
// waits for comes at last: therefore a state has, beside its guess, how many of the untils, in a row, are settled.
type maker struct {
	times, untils []*node
}

// made answers an automaton whose state 0 is the start, which has no guess: there the whole is to be true. Of MaxTimes
// untils there are 1 + 32 * 6 states, so no formula goes beyond MaxAuto.
func made(whole *node) api.Auto {
	m := &maker{}
	m.number(whole)
	out := api.Auto{Letters: letters, States: m.state(m.guesses(), 0), Start: []int{0}}
	for guess := range m.guesses() {
		out.Final = append(out.Final, m.state(guess, len(m.untils)))
		for letter := range letters {
			if whole.now(letter, guess) {
				out.Steps = append(out.Steps, api.Step{From: 0, Letter: letter, To: m.state(guess, 0)})
			}
			out.Steps = m.stepsTo(guess, letter, out.Steps)
		}
	}
	slices.SortFunc(out.Steps, order)
	return out
}

// number gives each node of time its bit.
func (m *maker) number(n *node) {
	if n == nil {
		return
	}
	m.number(n.left)
	m.number(n.right)
	if n.kind == next || n.kind == until {
		n.bit = len(m.times)
		m.times = append(m.times, n)
	}
	if n.kind == until {
		m.untils = append(m.untils, n)
	}
}

func (m *maker) guesses() int { return 1 << len(m.times) }

func (m *maker) state(guess, settled int) int {
	return 1 + guess*(len(m.untils)+1) + settled
}

// stepsTo appends the steps by a letter to a guess. Where all untils are settled, it begins with the first one again:
// so all are settled again and again just where each one of them is.
func (m *maker) stepsTo(guess, letter int, steps []api.Step) []api.Step {
	from := m.before(letter, guess)
	for settled := range len(m.untils) + 1 {
		then := settled
		if then == len(m.untils) {
			then = 0
		}
		for then < len(m.untils) && m.untils[then].settled(letter, guess) {
			then++
		}
		steps = append(steps, api.Step{From: m.state(from, settled), Letter: letter, To: m.state(guess, then)})
	}
	return steps
}

// before answers the guess of a place with a letter, ahead of a place with a guess.
func (m *maker) before(letter, guess int) int {
	out := 0
	for _, n := range m.times {
		told := n
		if n.kind == next {
			told = n.left
		}
		if told.now(letter, guess) {
			out |= 1 << n.bit
		}
	}
	return out
}

// now tells whether the node is true at a place with a letter, ahead of a place with a guess.
func (n *node) now(letter, guess int) bool {
	guessed := guess>>n.bit&1 == 1
	switch n.kind {
	case always:
		return true
	case isP:
		return hasP(letter)
	case isQ:
		return hasQ(letter)
	case not:
		return !n.left.now(letter, guess)
	case both:
		return n.left.now(letter, guess) && n.right.now(letter, guess)
	case either:
		return n.left.now(letter, guess) || n.right.now(letter, guess)
	case next:
		return guessed
	case until:
		return n.right.now(letter, guess) || n.left.now(letter, guess) && guessed
	}
	return false
}

// settled tells whether an until waits for nothing: what it waits for is here, or it is not true.
func (n *node) settled(letter, guess int) bool {
	return n.right.now(letter, guess) || !n.now(letter, guess)
}

func order(x, y api.Step) int {
	return cmp.Or(cmp.Compare(x.From, y.From), cmp.Compare(x.Letter, y.Letter), cmp.Compare(x.To, y.To))
}

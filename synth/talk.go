package synth

import (
	"slices"

	"evermore/api"
	"evermore/game"
)

// The sides, as players: the least mark that comes again and again is even where what is wished comes.
const (
	answerer = 0
	world    = 1
)

// letters is how many there are of what both sides say in a turn.
const letters = 4

func letter(fromWorld, fromAnswerer int) int { return fromWorld + 2*fromAnswerer }

// A talk is a game of both sides. Each state of the wish has three places: the world's, which speaks there, and two
// of the answerer's, one for each thing that the world can have said. All three have the state's mark.
//
// Who wins it looks at the place alone: so the state of the wish, and what is heard, is all that a machine must know.
type talk struct {
	wish api.Det
	won  api.Won
}

func worldsPlace(state int) int { return 3 * state }

func answerersPlace(state, heard int) int { return 3*state + 1 + heard }

func newTalk(wish api.Det) *talk {
	var g api.Game
	for s, next := range wish.Next {
		g.Owner = append(g.Owner, world, answerer, answerer)
		g.Mark = append(g.Mark, wish.Mark[s], wish.Mark[s], wish.Mark[s])
		g.Next = append(g.Next, []int{answerersPlace(s, 0), answerersPlace(s, 1)})
		for heard := range 2 {
			g.Next = append(g.Next, rising(worldsPlace(next[letter(heard, 0)]), worldsPlace(next[letter(heard, 1)])))
		}
	}
	return &talk{wish, game.Solved(g)}
}

func rising(a, b int) []int {
	return slices.Compact([]int{min(a, b), max(a, b)})
}

// A turn is, for each thing that is heard, what is said, and the state of the wish that comes.
type turn struct {
	says, next [2]int
}

// machine answers a machine of the side that wins from the start. Its states are those of the wish that can come
// where that side speaks as it must, numbered as they are come to.
func (t *talk) machine() api.Machine {
	start := t.wish.Start
	m := api.Machine{First: t.won.Winner[worldsPlace(start)] == world}
	states, number := []int{start}, map[int]int{start: 0}
	for i := 0; i < len(states); i++ {
		x := t.turn(states[i], m.First)
		var row [2]int
		for heard, s := range x.next {
			n, known := number[s]
			if !known {
				n = len(states)
				number[s] = n
				states = append(states, s)
			}
			row[heard] = n
		}
		m.Says = append(m.Says, x.says)
		m.Next = append(m.Next, row)
	}
	return m
}

func (t *talk) turn(state int, first bool) turn {
	if first {
		return t.worldsTurn(state)
	}
	return t.answerersTurn(state)
}

func (t *talk) worldsTurn(state int) turn {
	var x turn
	says := bit(t.won.Move[worldsPlace(state)] == answerersPlace(state, 1))
	for heard := range x.says {
		x.says[heard] = says
		x.next[heard] = t.wish.Next[state][letter(says, heard)]
	}
	return x
}

func (t *talk) answerersTurn(state int) turn {
	var x turn
	for heard := range x.says {
		move, next := t.won.Move[answerersPlace(state, heard)], t.wish.Next[state]
		x.says[heard] = bit(move == worldsPlace(next[letter(heard, 1)]))
		x.next[heard] = next[letter(heard, x.says[heard])]
	}
	return x
}

func bit(is bool) int {
	if is {
		return 1
	}
	return 0
}

package game

import (
	"math"
	"slices"

	"evermore/api"
)

// A set has of each place whether it is in it.
type set []bool

func (a set) isEmpty() bool { return !slices.Contains(a, true) }

func (a set) without(b set) set {
	out := slices.Clone(a)
	for p, is := range b {
		out[p] = out[p] && !is
	}
	return out
}

func (a set) places() []int {
	var out []int
	for p, is := range a {
		if is {
			out = append(out, p)
		}
	}
	return out
}

// A solver has the game, from where one can move to each place, and what is known of who wins and how, which may
// change until all is solved.
//
// What it solves are parts of the game: sets at each of whose places some move leads to one of them. Those are all
// the moves of the part.
type solver struct {
	api.Game
	api.Won
	from [][]int
}

// Solved solves a game that is right but for how many places it has, and how great its marks are.
func Solved(g api.Game) api.Won {
	n := len(g.Owner)
	s := &solver{Game: g, from: make([][]int, n)}
	s.Winner, s.Move = make([]int, n), make([]int, n)
	for p, next := range s.Next {
		for _, to := range next {
			s.from[to] = append(s.from[to], p)
		}
	}
	s.solve(slices.Repeat(set{true}, n))
	s.dropMoves()
	return s.Won
}

// solve tells who wins from each place of a part (McNaughton, Zielonka).
//
// The one whom the least mark helps would win by coming there again and again. So the other one must win, if
// anywhere, in what is left without the places from where one can be brought there; and then wherever one can be
// brought to that. If this takes no more away, the rest is the first one's: whoever leaves what is won without the
// least mark comes to the least mark. Else it is begun anew with the rest.
func (s *solver) solve(part set) {
	for !part.isEmpty() {
		mark := s.leastMark(part)
		best, player := s.marked(mark, part), mark%2
		below := part.without(s.drawn(player, best, part))
		s.solve(below)
		lost := s.wonBy(1-player, below)
		taken := s.drawn(1-player, lost, part)
		s.give(1-player, taken)
		part = part.without(taken)
		if slices.Equal(taken, lost) {
			s.give(player, part)
			s.stay(best, part)
			return
		}
	}
}

func (s *solver) leastMark(part set) int {
	least := math.MaxInt
	for _, p := range part.places() {
		least = min(least, s.Mark[p])
	}
	return least
}

func (s *solver) marked(mark int, part set) set {
	out := make(set, len(part))
	for p, is := range part {
		out[p] = is && s.Mark[p] == mark
	}
	return out
}

// drawn answers the places of a part from which a player can bring the other one to a goal, and the goal's. By the
// move that is noted at each of the player's, what comes next was drawn earlier: so the goal is come to.
func (s *solver) drawn(player int, goal, part set) set {
	out, row, needs := slices.Clone(goal), goal.places(), s.needs(player, part)
	for i := 0; i < len(row); i++ {
		for _, p := range s.from[row[i]] {
			needs[p]--
			if needs[p] == 0 && !out[p] {
				out[p] = true
				row = append(row, p)
				s.Move[p] = row[i]
			}
		}
	}
	return out
}

// needs answers of each place of a part how many of its moves must lead to what is drawn so that it is drawn, too:
// one of the player's own, all of the other one's. Outside of the part it is 0, which no count comes down to.
func (s *solver) needs(player int, part set) []int {
	out := make([]int, len(part))
	for _, p := range part.places() {
		if s.Owner[p] == player {
			out[p] = 1
			continue
		}
		for _, to := range s.Next[p] {
			if part[to] {
				out[p]++
			}
		}
	}
	return out
}

func (s *solver) wonBy(player int, part set) set {
	out := make(set, len(part))
	for p, is := range part {
		out[p] = is && s.Winner[p] == player
	}
	return out
}

func (s *solver) give(player int, part set) {
	for _, p := range part.places() {
		s.Winner[p] = player
	}
}

// stay notes at some places of a part a move that does not leave it. There is one, as nothing of a part leads out of
// it by all its moves.
func (s *solver) stay(some, part set) {
	for _, p := range some.places() {
		for _, to := range s.Next[p] {
			if part[to] {
				s.Move[p] = to
			}
		}
	}
}

// dropMoves takes away what was noted at places that their winner does not own.
func (s *solver) dropMoves() {
	for p, winner := range s.Winner {
		if s.Owner[p] != winner {
			s.Move[p] = -1
		}
	}
}

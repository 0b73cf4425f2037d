package grow

import (
	"slices"

	"evermore/api"
	"evermore/game"
)

// The players: the least mark that comes again and again is even where the grower wins.
const (
	grower = 0
	barrer = 1
)

// descent solves the game of going down: in each state the grower takes a rule of it, at each rule the barrer goes
// left or right. Some tree is accepted just where the grower wins: whatever ways the barrer goes then are ways down
// that tree.
//
// Who wins looks at the place alone: so one rule a state is all that a tree needs, one way a rule all that bars it.
func descent(a api.Trees) api.Won {
	var g api.Game
	for s := range a.States {
		g.Owner = append(g.Owner, grower)
		g.Mark = append(g.Mark, a.Mark[s])
		g.Next = append(g.Next, nil)
	}
	for i, r := range a.Rules {
		g.Owner = append(g.Owner, barrer)
		g.Mark = append(g.Mark, a.Mark[r.To])
		g.Next = append(g.Next, rising(r.Left, r.Right))
		g.Next[r.To] = append(g.Next[r.To], rulesPlace(a, i))
	}
	for s := range a.States {
		if len(g.Next[s]) == 0 {
			lose(g, s)
		}
	}
	return game.Solved(g)
}

// The places are the states, and behind them the rules.
func rulesPlace(a api.Trees, rule int) int { return a.States + rule }

func ruleAt(a api.Trees, place int) api.Rule { return a.Rules[place-a.States] }

func rising(x, y int) []int {
	return slices.Compact([]int{min(x, y), max(x, y)})
}

// lose lets the grower go round for ever with an odd mark, as a game has moves everywhere.
func lose(g api.Game, state int) {
	g.Mark[state], g.Next[state] = 1, []int{state}
}

// grown answers the tree that the grower's moves make from the start: a place for each state that comes.
func grown(a api.Trees, w api.Won) api.Grown {
	g := api.Grown{State: []int{a.Start}}
	for p := 0; p < len(g.State); p++ {
		r := ruleAt(a, w.Move[g.State[p]])
		g.Letter = append(g.Letter, r.Letter)
		g.Left = append(g.Left, placeOf(&g, r.Left))
		g.Right = append(g.Right, placeOf(&g, r.Right))
	}
	return g
}

// placeOf answers the place of a state, which is laid if there is none yet.
func placeOf(g *api.Grown, state int) int {
	p := slices.Index(g.State, state)
	if p < 0 {
		p = len(g.State)
		g.State = append(g.State, state)
	}
	return p
}

// barred answers the barrer's ways. At rules where the barrer does not win, which the barrer's ways never come to,
// it is the left one.
func barred(a api.Trees, w api.Won) []int {
	ways := make([]int, len(a.Rules))
	for i, r := range a.Rules {
		if w.Move[rulesPlace(a, i)] == r.Right {
			ways[i] = 1
		}
	}
	return ways
}

package game_test

import (
	"fmt"
	"slices"
	"testing"

	"evermore/api"
	"evermore/game"
)

// judge holds what is said of a game against J2, and answers what is wrong with it. Where a player's moves never
// leave the places that the player is said to win, and no way that the other one can go then comes round with a
// wrong least mark, the player wins there indeed: so, when nothing is wrong, each winner is the one that there is.
func judge(g api.Game, w api.Won) string {
	n := len(g.Owner)
	if len(w.Winner) != n || len(w.Move) != n {
		return "not as many as there are places"
	}
	onward := make([][]int, n)
	for p := range n {
		if w.Winner[p] != 0 && w.Winner[p] != 1 {
			return fmt.Sprint("no player wins from ", p)
		}
		if onward[p] = g.Next[p]; w.Winner[p] == g.Owner[p] {
			onward[p] = []int{w.Move[p]}
			if !slices.Contains(g.Next[p], w.Move[p]) {
				return fmt.Sprint("no move of ", p)
			}
		} else if w.Move[p] != -1 {
			return fmt.Sprint("a move that is not the winner's: of ", p)
		}
		for _, to := range onward[p] {
			if w.Winner[to] != w.Winner[p] {
				return fmt.Sprint("another one wins behind ", p)
			}
		}
	}
	for p := range n {
		if g.Mark[p]%2 != w.Winner[p] && comesRound(onward, g.Mark, p) {
			return fmt.Sprint("one can come again and again, with no mark below its own, to ", p)
		}
	}
	return ""
}

// comesRound tells whether one can come from a place to itself, by places none of whose marks is below its own.
func comesRound(onward [][]int, marks []int, p int) bool {
	seen, row := make([]bool, len(onward)), []int{p}
	for i := 0; i < len(row); i++ {
		for _, to := range onward[row[i]] {
			if to == p {
				return true
			}
			if !seen[to] && marks[to] >= marks[p] {
				seen[to] = true
				row = append(row, to)
			}
		}
	}
	return false
}

// try solves a game that is right.
func try(t *testing.T, g api.Game) api.Won {
	t.Helper()
	w, e := game.Solve(g)
	if e != api.OK || game.Check(g) != api.OK {
		t.Fatal(g, e, game.Check(g))
	}
	if s := judge(g, w); s != "" {
		t.Fatal(g, w, s)
	}
	return w
}

// byPlay tells who wins from each place by the words of J1 alone: player 0 does, if there is a choice of moves such
// that, whatever the other one's choice, the least mark of the loop that is come to is even. (That one looks at the
// place alone is J3's; so it is asked as well whether player 1 has such a choice.)
func byPlay(g api.Game) [2][]bool {
	n := len(g.Owner)
	var wins [2][]bool
	for player := range wins {
		wins[player] = make([]bool, n)
		choices(g, player, make([]int, n), 0, func(move []int) {
			good := slices.Repeat([]bool{true}, n)
			choices(g, 1-player, slices.Clone(move), 0, func(both []int) {
				for p := range n {
					good[p] = good[p] && leastAgain(g, both, p)%2 == player
				}
			})
			for p := range n {
				wins[player][p] = wins[player][p] || good[p]
			}
		})
	}
	return wins
}

// choices calls see with each choice of a player's moves, at places from p on.
func choices(g api.Game, player int, move []int, p int, see func([]int)) {
	if p == len(move) {
		see(move)
		return
	}
	if g.Owner[p] != player {
		choices(g, player, move, p+1, see)
		return
	}
	for _, to := range g.Next[p] {
		move[p] = to
		choices(g, player, move, p+1, see)
	}
}

func leastAgain(g api.Game, move []int, p int) int {
	for range move {
		p = move[p]
	}
	least, q := g.Mark[p], move[p]
	for q != p {
		least, q = min(least, g.Mark[q]), move[q]
	}
	return least
}

// small calls see with each game of so many places, and marks below a bound.
func small(places, marks int, see func(api.Game)) {
	kinds := 2 * marks * (1<<places - 1)
	all := 1
	for range places {
		all *= kinds
	}
	for x := range all {
		var g api.Game
		for range places {
			y := x % kinds
			x /= kinds
			g.Owner = append(g.Owner, y%2)
			g.Mark = append(g.Mark, y/2%marks)
			g.Next = append(g.Next, bits(y/2/marks+1))
		}
		see(g)
	}
}

func bits(set int) []int {
	var out []int
	for p := 0; set>>p > 0; p++ {
		if set>>p&1 == 1 {
			out = append(out, p)
		}
	}
	return out
}

// hard is a game that was looked for, by small changes: most parts of it are solved very many times.
func hard() api.Game {
	g := api.Game{Owner: []int{
		0, 1, 0, 1, 1, 0, 1, 1, 1, 1, 1, 0, 0, 0, 1, 1, 0, 1, 1, 1, 0, 0, 0, 0, 1, 0, 1, 0, 0, 0,
		1, 1, 0, 0, 0, 0, 0, 0, 1, 1, 1, 1, 1, 0, 1, 0, 0, 1, 0, 0, 1, 1, 1, 0, 1, 0, 0, 1, 1, 1,
	}, Mark: []int{
		3, 7, 7, 7, 6, 8, 8, 8, 4, 5, 6, 4, 9, 1, 7, 2, 6, 8, 2, 5, 3, 9, 9, 9, 7, 9, 8, 9, 3, 6,
		8, 6, 8, 6, 7, 9, 9, 9, 8, 4, 8, 7, 8, 9, 9, 1, 7, 0, 5, 5, 8, 2, 7, 8, 8, 9, 2, 4, 8, 8,
	}}
	for _, next := range []int{
		0x2513888fa9531b, 0x70402820011800, 0x8300000000094, 0x10080c20220040, 0x2b3500d25a78030, 0xc2412414ba05280,
		0xe0002800200060, 0x8484ce11a875934, 0xb154a65bb414a24, 0xe1411404261848, 0xd4091928630042, 0x25457d16b091110,
		0x87412000b801080, 0x44531568924292f, 0x8a40c2a87011860, 0x2f50e3320968f4e, 0x800128101080001, 0x82000020000,
		0x325093da0835809, 0xa24a3e11579c08, 0x450335da1a34b3b, 0xc14124141e84040, 0x80010010bc04208, 0x100040880080,
		0x91044280240102a, 0x2014a000280, 0x81204040800, 0x400100048084280, 0x613416d5f84570, 0xc00120082880452,
		0xc409c96f6a71c24, 0x4640a6b82840c60, 0x400100048084080, 0x23447064d43172b, 0xc4414894b7201eb, 0x54024909e0404a,
		0x804519042f8537a, 0x94231382165ba6b, 0x140085020400860, 0x70f976d6570c55a, 0x100453020021020, 0x70084e00611c02,
		0x42420000000, 0x4847d5d50f94e73, 0xa03901044209054, 0x275155584be59aa, 0x4d0064103001048, 0x40d1a18ce72e90e,
		0xc701000a7a11491, 0x625220c22714052, 0x884081c03601c6a, 0xd5ed400dd93d2f0, 0x120053220000800, 0x44014801280242,
		0x40080000201000, 0x84104001804282, 0xab90149628c056b, 0x3274c18b4710a4a, 0xca0086b08840020, 0x8e0080a22410040,
	} {
		g.Next = append(g.Next, bits(next))
	}
	return g
}

// dice is a row of numbers that looks like chance, and is the same each time.
type dice uint32

func (x *dice) roll(n int) int {
	*x = *x*1664525 + 1013904223
	return int(*x>>8) % n
}

// game has at each place up to so many moves.
func (x *dice) game(places, marks, moves int) api.Game {
	var g api.Game
	for range places {
		g.Owner = append(g.Owner, x.roll(2))
		g.Mark = append(g.Mark, x.roll(marks))
		var next []int
		for range 1 + x.roll(moves) {
			next = append(next, x.roll(places))
		}
		slices.Sort(next)
		g.Next = append(g.Next, slices.Compact(next))
	}
	return g
}

// changed has another owner, mark or move at some place.
func (x *dice) changed(g api.Game, marks int) api.Game {
	g = deep(g)
	n := len(g.Owner)
	p, q := x.roll(n), x.roll(n)
	switch x.roll(4) {
	case 0:
		g.Owner[p] = 1 - g.Owner[p]
	case 1:
		g.Mark[p] = x.roll(marks)
	case 2:
		g.Next[p], g.Next[q] = g.Next[q], g.Next[p]
	case 3:
		if i, is := slices.BinarySearch(g.Next[p], q); !is {
			g.Next[p] = slices.Insert(g.Next[p], i, q)
		} else if len(g.Next[p]) > 1 {
			g.Next[p] = slices.Delete(g.Next[p], i, i+1)
		}
	}
	return g
}

func deep(g api.Game) api.Game {
	out := api.Game{Owner: slices.Clone(g.Owner), Mark: slices.Clone(g.Mark)}
	for _, next := range g.Next {
		out.Next = append(out.Next, slices.Clone(next))
	}
	return out
}

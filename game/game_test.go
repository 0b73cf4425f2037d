package game_test

import (
	"reflect"
	"slices"
	"testing"

	"evermore/api"
	"evermore/game"
)

// ring has so many places, one behind the other, all of one owner and mark.
func ring(places, owner, mark int) api.Game {
	g := api.Game{Owner: slices.Repeat([]int{owner}, places), Mark: slices.Repeat([]int{mark}, places)}
	for p := range places {
		g.Next = append(g.Next, []int{(p + 1) % places})
	}
	return g
}

// all has all moves that there can be.
func all(places int) api.Game {
	g := ring(places, 0, 0)
	for p := range places {
		g.Next[p] = nil
		for q := range places {
			g.Next[p] = append(g.Next[p], q)
		}
		g.Owner[p], g.Mark[p] = p%2, p%10
	}
	return g
}

// turned has the players in each other's place. No mark may be the greatest one.
func turned(g api.Game) api.Game {
	g = deep(g)
	for p := range g.Owner {
		g.Owner[p] = 1 - g.Owner[p]
		g.Mark[p]++
	}
	return g
}

type wrong struct {
	name   string
	change func(*api.Game)
	want   api.Errno
}

// wrongs are changes of a game of three places, and what J1 says of them.
func wrongs() []wrong {
	return []wrong{
		{"nothing", func(g *api.Game) { *g = api.Game{} }, api.ErrSize},
		{"no places, in empty lists", func(g *api.Game) { *g = api.Game{Owner: []int{}, Mark: []int{}, Next: [][]int{}} }, api.ErrSize},
		{"61 places", func(g *api.Game) { *g = ring(61, 0, 0) }, api.ErrSize},
		{"many places", func(g *api.Game) { *g = ring(100000, 1, 9) }, api.ErrSize},
		{"size ahead of shape", func(g *api.Game) { *g = api.Game{Owner: make([]int, 61)} }, api.ErrSize},
		{"size ahead of an owner", func(g *api.Game) { *g = ring(61, 2, 0) }, api.ErrSize},
		{"size ahead of a mark", func(g *api.Game) { *g = ring(61, 0, 10) }, api.ErrSize},
		{"no owners", func(g *api.Game) { g.Owner = nil }, api.ErrSize},
		{"an owner too few", func(g *api.Game) { g.Owner = g.Owner[:2] }, api.ErrShape},
		{"an owner too many", func(g *api.Game) { g.Owner = append(g.Owner, 1) }, api.ErrShape},
		{"a mark too few", func(g *api.Game) { g.Mark = g.Mark[:2] }, api.ErrShape},
		{"a mark too many", func(g *api.Game) { g.Mark = append(g.Mark, 1) }, api.ErrShape},
		{"no marks", func(g *api.Game) { g.Mark = nil }, api.ErrShape},
		{"a row of moves too few", func(g *api.Game) { g.Next = g.Next[:2] }, api.ErrShape},
		{"a row of moves too many", func(g *api.Game) { g.Next = append(g.Next, []int{0}) }, api.ErrShape},
		{"no rows of moves", func(g *api.Game) { g.Next = nil }, api.ErrShape},
		{"shape ahead of an owner", func(g *api.Game) { g.Owner[0], g.Mark = 2, g.Mark[:2] }, api.ErrShape},
		{"shape ahead of a mark", func(g *api.Game) { g.Mark[0], g.Next = 10, g.Next[:2] }, api.ErrShape},
		{"shape ahead of no move", func(g *api.Game) { g.Next = make([][]int, 4) }, api.ErrShape},
		{"an owner beyond", func(g *api.Game) { g.Owner[2] = 2 }, api.ErrRange},
		{"an owner below", func(g *api.Game) { g.Owner[0] = -1 }, api.ErrRange},
		{"an owner far below", func(g *api.Game) { g.Owner[1] = -1 << 63 }, api.ErrRange},
		{"a mark beyond", func(g *api.Game) { g.Mark[2] = 10 }, api.ErrRange},
		{"a mark below", func(g *api.Game) { g.Mark[0] = -1 }, api.ErrRange},
		{"an even mark below", func(g *api.Game) { g.Mark[1] = -2 }, api.ErrRange},
		{"a mark far beyond", func(g *api.Game) { g.Mark[1] = 1<<63 - 1 }, api.ErrRange},
		{"a late owner ahead of no move", func(g *api.Game) { g.Owner[2], g.Next[0] = 2, nil }, api.ErrRange},
		{"a late mark ahead of no move", func(g *api.Game) { g.Mark[2], g.Next[0] = 10, nil }, api.ErrRange},
		{"a late mark ahead of falling moves", func(g *api.Game) { g.Mark[2], g.Next[0] = 10, []int{1, 0} }, api.ErrRange},
		{"no move", func(g *api.Game) { g.Next[0] = nil }, api.ErrNone},
		{"no move at the last place", func(g *api.Game) { g.Next[2] = []int{} }, api.ErrNone},
		{"a move beyond", func(g *api.Game) { g.Next[2] = []int{3} }, api.ErrRange},
		{"a move below", func(g *api.Game) { g.Next[0] = []int{-1} }, api.ErrRange},
		{"a later move beyond", func(g *api.Game) { g.Next[1] = []int{0, 1, 3} }, api.ErrRange},
		{"a move far beyond", func(g *api.Game) { g.Next[1] = []int{0, 1<<63 - 1} }, api.ErrRange},
		{"a move far below", func(g *api.Game) { g.Next[1] = []int{-1 << 63, 1} }, api.ErrRange},
		{"a move twice", func(g *api.Game) { g.Next[0] = []int{1, 1} }, api.ErrShape},
		{"falling moves", func(g *api.Game) { g.Next[2] = []int{2, 1} }, api.ErrShape},
		{"falling at last", func(g *api.Game) { g.Next[1] = []int{0, 2, 1} }, api.ErrShape},
		{"a move beyond, behind falling ones", func(g *api.Game) { g.Next[1] = []int{1, 0, 3} }, api.ErrRange},
		{"falls below all places", func(g *api.Game) { g.Next[1] = []int{1, -1} }, api.ErrRange},
		{"many moves", func(g *api.Game) { g.Next[1] = make([]int, 100000) }, api.ErrShape},
		{"no move ahead of a later place's beyond", func(g *api.Game) { g.Next[0], g.Next[1] = nil, []int{3} }, api.ErrNone},
		{"a move beyond ahead of a later place's none", func(g *api.Game) { g.Next[0], g.Next[1] = []int{3}, nil }, api.ErrRange},
		{"falling moves ahead of a later place's none", func(g *api.Game) { g.Next[0], g.Next[1] = []int{1, 0}, nil }, api.ErrShape},
		{"falling moves ahead of a later place's beyond", func(g *api.Game) { g.Next[1], g.Next[2] = []int{1, 0}, []int{-1} }, api.ErrShape},
	}
}

// J1, in the order of its errors; J2: Solve answers them, and nothing beside them.
func TestRefuses(t *testing.T) {
	for _, x := range wrongs() {
		g := api.Game{Owner: []int{0, 1, 0}, Mark: []int{0, 9, 4}, Next: [][]int{{0, 1, 2}, {1}, {0, 2}}}
		if e := game.Check(g); e != api.OK {
			t.Fatal(e)
		}
		x.change(&g)
		if e := game.Check(g); e != x.want {
			t.Errorf("%s: %v, not %v", x.name, e, x.want)
		}
		if w, e := game.Solve(g); e != x.want || !reflect.DeepEqual(w, api.Won{}) {
			t.Errorf("%s: Solve: %v, %v, not %v", x.name, w, e, x.want)
		}
	}
}

// J1: what is right, at the edges.
func TestChecksEdges(t *testing.T) {
	for name, g := range map[string]api.Game{
		"one place":      ring(1, 0, 0),
		"60 places":      ring(60, 1, 9),
		"all moves":      all(60),
		"all marks":      all(10),
		"not come to":    {Owner: []int{0, 1}, Mark: []int{9, 0}, Next: [][]int{{0}, {0}}},
		"the last place": {Owner: []int{1, 1}, Mark: []int{9, 0}, Next: [][]int{{1}, {0, 1}}},
	} {
		if e := game.Check(g); e != api.OK {
			t.Errorf("%s: %v", name, e)
		}
		try(t, g)
	}
}

// J1, J2, by hand: games of which who wins, and the moves, can be one thing alone.
func TestByHand(t *testing.T) {
	for _, x := range []struct {
		name string
		g    api.Game
		want api.Won
	}{
		{"an even mark, one's own place", ring(1, 0, 0), api.Won{Winner: []int{0}, Move: []int{0}}},
		{"an even mark, the other one's place", ring(1, 1, 8), api.Won{Winner: []int{0}, Move: []int{-1}}},
		{"an odd mark, one's own place", ring(1, 1, 9), api.Won{Winner: []int{1}, Move: []int{0}}},
		{"an odd mark, the other one's place", ring(1, 0, 1), api.Won{Winner: []int{1}, Move: []int{-1}}},
		{"the least one is even, the greatest odd",
			api.Game{Owner: []int{0, 1, 0}, Mark: []int{9, 2, 3}, Next: [][]int{{1}, {2}, {0}}},
			api.Won{Winner: []int{0, 0, 0}, Move: []int{1, -1, 0}}},
		{"the least one is odd, the greatest even",
			api.Game{Owner: []int{0, 1, 0}, Mark: []int{8, 1, 2}, Next: [][]int{{1}, {2}, {0}}},
			api.Won{Winner: []int{1, 1, 1}, Move: []int{-1, 2, -1}}},
		{"the least one comes once alone",
			api.Game{Owner: []int{0, 0}, Mark: []int{0, 5}, Next: [][]int{{1}, {1}}},
			api.Won{Winner: []int{1, 1}, Move: []int{-1, -1}}},
		{"it can come again and again",
			api.Game{Owner: []int{0, 0}, Mark: []int{0, 5}, Next: [][]int{{1}, {0, 1}}},
			api.Won{Winner: []int{0, 0}, Move: []int{1, 0}}},
		{"it could, but is another one's to choose",
			api.Game{Owner: []int{0, 1}, Mark: []int{0, 5}, Next: [][]int{{1}, {0, 1}}},
			api.Won{Winner: []int{1, 1}, Move: []int{-1, 1}}},
		{"to stay is better than to go to a mark that is less",
			api.Game{Owner: []int{0, 1}, Mark: []int{4, 3}, Next: [][]int{{0, 1}, {0, 1}}},
			api.Won{Winner: []int{0, 1}, Move: []int{0, 1}}},
		{"to go is better",
			api.Game{Owner: []int{0, 1}, Mark: []int{3, 2}, Next: [][]int{{0, 1}, {0, 1}}},
			api.Won{Winner: []int{0, 0}, Move: []int{1, -1}}},
		{"the place that both want",
			api.Game{Owner: []int{0, 1, 0}, Mark: []int{1, 0, 2}, Next: [][]int{{0, 1}, {0, 2}, {1}}},
			api.Won{Winner: []int{0, 0, 0}, Move: []int{1, -1, 1}}},
		{"each one's own",
			api.Game{Owner: []int{0, 1, 0, 1}, Mark: []int{2, 1, 0, 3}, Next: [][]int{{0, 1}, {0, 1}, {1}, {2}}},
			api.Won{Winner: []int{0, 1, 1, 1}, Move: []int{0, 1, -1, 2}}},
		{"the same mark helps where it comes alone",
			api.Game{Owner: []int{1, 0, 0}, Mark: []int{7, 6, 8}, Next: [][]int{{1, 2}, {0}, {2}}},
			api.Won{Winner: []int{0, 0, 0}, Move: []int{-1, 0, 2}}},
	} {
		w := try(t, x.g)
		if !slices.Equal(w.Winner, x.want.Winner) || !slices.Equal(w.Move, x.want.Move) {
			t.Errorf("%s: %v, not %v", x.name, w, x.want)
		}
	}
}

// J1, J2, J3: all small games, held against all choices of moves that there are.
func TestSmall(t *testing.T) {
	for _, x := range []struct{ places, marks int }{{1, 10}, {2, 10}, {3, 4}} {
		small(x.places, x.marks, func(g api.Game) {
			w := try(t, g)
			wins := byPlay(g)
			for p, winner := range w.Winner {
				if !wins[winner][p] || wins[1-winner][p] {
					t.Fatal(g, w, wins)
				}
			}
		})
	}
}

// J2, J3: greater games, of each size, and how they are when the players change places.
func TestGreater(t *testing.T) {
	x := dice(1)
	var mixed [2]int
	for i := range 12000 {
		g := x.game(1+i%60, 1+x.roll(9), 1+x.roll(1+x.roll(6)))
		w := try(t, g)
		for _, winner := range w.Winner {
			mixed[winner]++
		}
		other := try(t, turned(g))
		for p, winner := range w.Winner {
			if other.Winner[p] == winner {
				t.Fatal(g, w, other)
			}
		}
	}
	if min(mixed[0], mixed[1]) < 50000 {
		t.Error("nearly all are won by one:", mixed)
	}
}

// J2, J3: games with many moves, and all marks.
func TestDense(t *testing.T) {
	x := dice(2)
	for range 300 {
		try(t, x.game(60, 10, 1+x.roll(120)))
	}
}

// J2: games that are changed, bit by bit, so that both players win somewhere, and the marks that tell who does are
// many.
func TestChanged(t *testing.T) {
	x := dice(3)
	for range 12 {
		g, most := x.game(60, 10, 2), 0
		for range 400 {
			h := x.changed(g, 10)
			if turns := changes(try(t, h), h); turns >= most {
				g, most = h, turns
			}
		}
		if most < 40 {
			t.Error("few moves lead from a mark to one of another kind:", most)
		}
	}
}

// changes counts the winners' moves that lead to a mark of another kind, and are choices.
func changes(w api.Won, g api.Game) int {
	n := 0
	for p, to := range w.Move {
		if to >= 0 && g.Mark[p]%2 != g.Mark[to]%2 {
			n++
		}
		if to >= 0 && len(g.Next[p]) > 1 {
			n++
		}
	}
	return n
}

// The judge lets no other winner pass, whatever the move there, and no move that is none.
func TestJudge(t *testing.T) {
	x := dice(4)
	for range 300 {
		g := x.game(1+x.roll(30), 10, 3)
		w := try(t, g)
		for p, move := range w.Move {
			w.Winner[p] = 1 - w.Winner[p]
			for _, to := range slices.Concat(g.Next[p], []int{-1}) {
				if w.Move[p] = to; judge(g, w) == "" {
					t.Fatal(g, w, p)
				}
			}
			w.Winner[p] = 1 - w.Winner[p]
			for _, to := range []int{-2, len(w.Move)} {
				if w.Move[p] = to; judge(g, w) == "" {
					t.Fatal(g, w, p)
				}
			}
			w.Move[p] = move
		}
	}
}

// J2: games whose places stand in a row, with ways to and fro, of all sizes and numbers of marks.
func TestLadder(t *testing.T) {
	for places := 2; places <= 60; places++ {
		for marks := 1; marks <= 10; marks++ {
			for turn := range 4 {
				g := ring(places, 0, 0)
				for p := range places {
					g.Owner[p], g.Mark[p] = (p+p/2*turn)%2, (places-1-p)%marks
					next := []int{max(p-1-turn, 0), p, min(p+1, places-1), min(p+2+turn, places-1)}
					slices.Sort(next)
					g.Next[p] = slices.Compact(next)
				}
				try(t, g)
			}
		}
	}
}

// P1, J2: a game that takes long to solve, and some that are nearly it, are solved nevertheless.
func TestHard(t *testing.T) {
	x, g := dice(5), hard()
	for range 10 {
		try(t, g)
		g = x.changed(g, 10)
	}
}

// Solved, beyond what J1 lets pass: more places, greater marks.
func TestSolved(t *testing.T) {
	x := dice(6)
	for i := range 60 {
		g := x.game(61+20*i, 2+i, 3)
		for p := range g.Mark {
			g.Mark[p] += 5 * (i % 4)
		}
		if s := judge(g, game.Solved(g)); s != "" {
			t.Fatal(i, s)
		}
	}
}

// P3: what is handed in is left as it is, and what comes out shares memory with nothing.
func TestMemory(t *testing.T) {
	roomy := func(row ...int) []int { return append(row, 99, 99)[:len(row)] }
	fresh := func() api.Game {
		return api.Game{Owner: roomy(0, 1, 0), Mark: roomy(1, 2, 0), Next: [][]int{roomy(1, 2), roomy(0, 1), roomy(2), nil}[:3]}
	}
	g := fresh()
	game.Check(g)
	w, _ := game.Solve(g)
	kept, _ := game.Solve(g)
	if !reflect.DeepEqual(w, kept) || !reflect.DeepEqual(w, api.Won{Winner: []int{0, 0, 0}, Move: []int{2, -1, 2}}) {
		t.Fatal(w, kept)
	}
	winner := append(w.Winner, 7)
	move := append(w.Move, 8)
	for p := range 3 {
		winner[p], move[p] = 70+p, 80+p
		w.Winner[p], w.Move[p] = 50+p, 60+p
	}
	if !slices.Equal(w.Winner, []int{50, 51, 52}) || !slices.Equal(w.Move, []int{60, 61, 62}) {
		t.Error("lists share memory:", w)
	}
	if !reflect.DeepEqual(g, fresh()) || g.Next[:4][3] != nil {
		t.Error("what is handed in is changed:", g)
	}
	for _, row := range append([][]int{g.Owner, g.Mark}, g.Next...) {
		if !slices.Equal(row[len(row):len(row)+2], []int{99, 99}) {
			t.Error("what lies behind a list's length is written:", row[:len(row)+2])
		}
	}
	if again, _ := game.Solve(g); !reflect.DeepEqual(again, kept) {
		t.Error("Solve keeps what it answered:", again, kept)
	}
}

package weigh_test

import (
	"fmt"
	"math/big"
	"slices"
	"strconv"
	"strings"
	"testing"

	"evermore/api"
	"evermore/weigh"
)

// row reads numbers: 1 0 -9.
func row(text string) []int {
	var out []int
	for _, f := range strings.Fields(text) {
		x, err := strconv.Atoi(f)
		if err != nil {
			panic(err)
		}
		out = append(out, x)
	}
	return out
}

// read reads First, Last, and of each letter a table, its rows parted by /.
func read(first, last string, tables ...string) api.Weigh {
	a := api.Weigh{Letters: len(tables), First: row(first), Last: row(last)}
	for _, table := range tables {
		var rows [][]int
		for _, r := range strings.Split(table, "/") {
			rows = append(rows, row(r))
		}
		a.Step = append(a.Step, rows)
	}
	return a
}

// show writes what an automaton is, whether its empty lists are nil or not.
func show(a api.Weigh) string { return fmt.Sprint(a.Letters, a.First, a.Step, a.Last) }

func empty(a api.Weigh) bool { return show(a) == show(api.Weigh{}) }

// words answers all of up to so many letters, the first ones first.
func words(letters, most int) [][]int {
	out := [][]int{nil}
	for i := 0; i < len(out) && len(out[i]) < most; i++ {
		for l := range letters {
			out = append(out, append(slices.Clone(out[i]), l))
		}
	}
	return out
}

// sum is what a word weighs by R2's own words: over all ways to choose a state, the product of what is on the way.
func sum(a api.Weigh, w []int) *big.Int {
	total := new(big.Int)
	var choose func(at int, w []int, product *big.Int)
	choose = func(at int, w []int, product *big.Int) {
		if len(w) == 0 {
			total.Add(total, times(product, a.Last[at]))
			return
		}
		for to, x := range a.Step[w[0]][at] {
			choose(to, w[1:], times(product, x))
		}
	}
	for s, x := range a.First {
		choose(s, w, big.NewInt(int64(x)))
	}
	return total
}

func times(x *big.Int, y int) *big.Int { return new(big.Int).Mul(x, big.NewInt(int64(y))) }

// weighs is what a word of any length weighs, from its end on.
func weighs(a api.Weigh, w []int) *big.Int {
	var column []*big.Int
	for _, x := range a.Last {
		column = append(column, big.NewInt(int64(x)))
	}
	for _, l := range slices.Backward(w) {
		var ahead []*big.Int
		for _, row := range a.Step[l] {
			ahead = append(ahead, dot(row, column))
		}
		column = ahead
	}
	return dot(a.First, column)
}

func dot(row []int, column []*big.Int) *big.Int {
	total := new(big.Int)
	for i, x := range row {
		total.Add(total, times(column[i], x))
	}
	return total
}

// first answers the first of the words of up to so many letters that weighs unlike things.
func first(a, b api.Weigh, most int) ([]int, bool) {
	for _, w := range words(a.Letters, most) {
		if weighs(a, w).Cmp(weighs(b, w)) != 0 {
			return w, true
		}
	}
	return nil, false
}

// holdDiffer holds Differ against all words of up to so many letters; it answers what Differ does.
func holdDiffer(t *testing.T, a, b api.Weigh, most int) ([]int, bool) {
	t.Helper()
	w, told, e := weigh.Differ(a, b)
	want, is := first(a, b, most)
	if e != api.OK || told != is || !slices.Equal(w, want) {
		t.Fatal("Differ:", a, b, w, told, e, "not", want, is)
	}
	return w, told
}

// enough answers how many letters words have at most that tell all of automata with so many states together.
func enough(a, b api.Weigh) int { return len(a.First) + len(b.First) - 1 }

// table is R4's: of each word of up to so many letters, and each other one, what both weigh, one behind the other.
func table(a api.Weigh, most int) [][]*big.Rat {
	var out [][]*big.Rat
	all := words(a.Letters, most)
	for _, v := range all {
		var row []*big.Rat
		for _, w := range all {
			row = append(row, new(big.Rat).SetInt(weighs(a, slices.Concat(v, w))))
		}
		out = append(out, row)
	}
	return out
}

// rank answers how many rows of a table are no sums of multiples of others, by fractions; and, if all are, what the
// numbers that were divided by are when they are multiplied: but for its sign the determinant.
func rank(rows [][]*big.Rat) (int, *big.Rat) {
	many, product := 0, big.NewRat(1, 1)
	for c := 0; len(rows) > 0 && c < len(rows[0]); c++ {
		i := slices.IndexFunc(rows, func(r []*big.Rat) bool { return r[c].Sign() != 0 })
		if i < 0 {
			continue
		}
		by := rows[i]
		rows = slices.Delete(slices.Clone(rows), i, i+1)
		for _, r := range rows {
			part := new(big.Rat).Quo(r[c], by[c])
			for k := range r {
				r[k] = new(big.Rat).Sub(r[k], new(big.Rat).Mul(part, by[k]))
			}
		}
		product.Mul(product, by[c])
		many++
	}
	return many, product
}

// holdRank holds Rank against the table; it answers what Rank does.
func holdRank(t *testing.T, a api.Weigh) int {
	t.Helper()
	n, e := weigh.Rank(a)
	if want, _ := rank(table(a, len(a.First)-1)); e != api.OK || n != want {
		t.Fatal("Rank:", a, n, e, "not", want)
	}
	return n
}

// mirror has rows for columns.
func mirror(a api.Weigh) api.Weigh {
	b := copied(a)
	b.First, b.Last = b.Last, b.First
	for l, table := range a.Step {
		for i, row := range table {
			for j, x := range row {
				b.Step[l][j][i] = x
			}
		}
	}
	return b
}

func copied(a api.Weigh) api.Weigh {
	b := api.Weigh{Letters: a.Letters, First: slices.Clone(a.First), Last: slices.Clone(a.Last)}
	for _, table := range a.Step {
		var rows [][]int
		for _, row := range table {
			rows = append(rows, slices.Clone(row))
		}
		b.Step = append(b.Step, rows)
	}
	return b
}

// dice is a row of numbers that looks like chance, and is the same each time.
type dice uint32

func (x *dice) roll(n int) int {
	*x = *x*1664525 + 1013904223
	return int(*x>>8) % n
}

func (x *dice) word(letters, most int) []int {
	var out []int
	for range x.roll(most + 1) {
		out = append(out, x.roll(letters))
	}
	return out
}

// row answers n numbers of at most that size; about one of so many (empties) may be other than 0.
func (x *dice) row(n, size, empties int) []int {
	out := make([]int, n)
	for i := range out {
		if x.roll(empties) == 0 {
			out[i] = x.roll(2*size+1) - size
		}
	}
	return out
}

func (x *dice) weigh(letters, n, size, empties int) api.Weigh {
	a := api.Weigh{Letters: letters, First: x.row(n, size, empties), Last: x.row(n, size, empties)}
	for range letters {
		var rows [][]int
		for range n {
			rows = append(rows, x.row(n, size, empties))
		}
		a.Step = append(a.Step, rows)
	}
	return a
}

// disguised weighs each word as a does, by other means: states are turned, parted in two, or put in the place of one
// another.
func (x *dice) disguised(a api.Weigh) api.Weigh {
	a = copied(a)
	for range 4 {
		switch x.roll(3) {
		case 0:
			x.turn(a)
		case 1:
			a = x.parted(a)
		case 2:
			x.swap(a)
		}
	}
	return a
}

// turn brings all that leads to a state, and all that leads on from it, to the other side of 0.
func (x *dice) turn(a api.Weigh) {
	s := x.roll(len(a.First))
	a.First[s], a.Last[s] = -a.First[s], -a.Last[s]
	for _, table := range a.Step {
		for i := range table {
			table[i][s], table[s][i] = -table[i][s], -table[s][i]
		}
		table[s][s] = -table[s][s] // both at once: it stays
	}
}

// parted has a state twice, if there is room: what leads to it leads in part to the one, in part to the other.
func (x *dice) parted(a api.Weigh) api.Weigh {
	n := len(a.First)
	if n == 8 {
		return a
	}
	s := x.roll(n)
	part := func(row []int) []int {
		some := x.roll(3) - 1
		if y := row[s] - some; y >= -9 && y <= 9 {
			row[s] = y
			return append(row, some)
		}
		return append(row, 0)
	}
	a.First = part(a.First)
	a.Last = append(a.Last, a.Last[s])
	for l, table := range a.Step {
		again := slices.Clone(table[s])
		for i := range table {
			table[i] = part(table[i])
		}
		a.Step[l] = append(table, part(again))
	}
	return a
}

func (x *dice) swap(a api.Weigh) {
	i, j := x.roll(len(a.First)), x.roll(len(a.First))
	a.First[i], a.First[j] = a.First[j], a.First[i]
	a.Last[i], a.Last[j] = a.Last[j], a.Last[i]
	for _, table := range a.Step {
		table[i], table[j] = table[j], table[i]
		for _, row := range table {
			row[i], row[j] = row[j], row[i]
		}
	}
}

// changed has one number that is another.
func (x *dice) changed(a api.Weigh) api.Weigh {
	a = copied(a)
	rows := [][]int{a.First, a.Last}
	for _, table := range a.Step {
		rows = append(rows, table...)
	}
	r := rows[x.roll(len(rows))]
	i := x.roll(len(r))
	r[i] = (r[i]+9+1+x.roll(18))%19 - 9
	return a
}

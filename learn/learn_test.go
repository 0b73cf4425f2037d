package learn_test

import (
	"fmt"
	"reflect"
	"slices"
	"testing"

	"evermore/api"
	"evermore/det"
	"evermore/learn"
	"evermore/regular"
)

// lines makes an automaton whose start is 0.
func lines(mark []int, next ...[]int) api.Det {
	return api.Det{Letters: len(next[0]), Next: next, Mark: mark}
}

// ring has so many states, one behind the other by each letter, and accepts at each mark-th one from the first on.
func ring(letters, states, mark int) api.Det {
	d := api.Det{Letters: letters}
	for s := range states {
		d.Next = append(d.Next, slices.Repeat([]int{(s + 1) % states}, letters))
		d.Mark = append(d.Mark, 0)
		if s%mark == 0 {
			d.Mark[s] = 1
		}
	}
	return d
}

// alone accepts one word and no other.
func alone(letters int, w []int) api.Det {
	d := api.Det{Letters: letters}
	for s := range len(w) + 2 {
		row := slices.Repeat([]int{len(w) + 1}, letters)
		if s < len(w) {
			row[w[s]] = s + 1
		}
		d.Next = append(d.Next, row)
		d.Mark = append(d.Mark, 0)
	}
	d.Mark[len(w)] = 1
	return d
}

// lock opens behind a word within others: a wrong letter leads back to the beginning.
func lock(letters int, w []int) api.Det {
	d := api.Det{Letters: letters}
	for s := range len(w) + 1 {
		row := make([]int, letters)
		if s < len(w) {
			row[w[s]] = s + 1
		} else {
			row = slices.Repeat([]int{s}, letters)
		}
		d.Next = append(d.Next, row)
		d.Mark = append(d.Mark, 0)
	}
	d.Mark[len(w)] = 1
	return d
}

// dice is a row of numbers that looks like chance, and is the same each time.
type dice uint32

func (x *dice) roll(n int) int {
	*x = *x*1664525 + 1013904223
	return int(*x>>8) % n
}

func (x *dice) det(letters, states int) api.Det {
	d := api.Det{Letters: letters, Start: x.roll(states)}
	for range states {
		row := make([]int, letters)
		for l := range row {
			row[l] = x.roll(states)
		}
		d.Next = append(d.Next, row)
		d.Mark = append(d.Mark, x.roll(2))
	}
	return d
}

// altered answers one that goes elsewhere at one place, or has one mark otherwise.
func (x *dice) altered(d api.Det) api.Det {
	out := deep(d)
	s := x.roll(len(d.Next))
	if x.roll(2) == 0 {
		out.Mark[s] = 1 - out.Mark[s]
	} else {
		out.Next[s][x.roll(d.Letters)] = x.roll(len(d.Next))
	}
	return out
}

func deep(d api.Det) api.Det {
	out := api.Det{Letters: d.Letters, Start: d.Start, Mark: slices.Clone(d.Mark)}
	for _, row := range d.Next {
		out.Next = append(out.Next, slices.Clone(row))
	}
	return out
}

// small calls see with each automaton of so many letters and states, at whatever state it starts.
func small(letters, states int, see func(api.Det)) {
	all := 1
	for range letters * states {
		all *= states
	}
	for x := range all {
		for marks := range 1 << states {
			d, y := api.Det{Letters: letters, Start: (x + marks) % states}, x
			for s := range states {
				row := make([]int, letters)
				for l := range row {
					row[l], y = y%states, y/states
				}
				d.Next = append(d.Next, row)
				d.Mark = append(d.Mark, marks>>s&1)
			}
			see(d)
		}
	}
}

func accepts(d api.Det, w []int) bool {
	s := d.Start
	for _, l := range w {
		s = d.Next[s][l]
	}
	return d.Mark[s] == 1
}

// firstApart goes through all pairs of states, in the order of the first words that lead to them.
func firstApart(a, b api.Det) ([]int, bool) {
	type pair [2]int
	type place struct {
		at pair
		w  []int
	}
	row := []place{{pair{a.Start, b.Start}, nil}}
	seen := map[pair]bool{row[0].at: true}
	for i := 0; i < len(row); i++ {
		p := row[i]
		if a.Mark[p.at[0]] != b.Mark[p.at[1]] {
			return p.w, true
		}
		for l := range a.Letters {
			on := pair{a.Next[p.at[0]][l], b.Next[p.at[1]][l]}
			if !seen[on] {
				seen[on] = true
				row = append(row, place{on, append(slices.Clone(p.w), l)})
			}
		}
	}
	return nil, false
}

// fewest counts the states that are come to and told apart.
func fewest(d api.Det) int {
	come := []int{d.Start}
	for i := 0; i < len(come); i++ {
		for _, s := range d.Next[come[i]] {
			if !slices.Contains(come, s) {
				come = append(come, s)
			}
		}
	}
	var kinds []int
	for _, s := range come {
		if !slices.ContainsFunc(kinds, func(k int) bool { return alike(d, s, k) }) {
			kinds = append(kinds, s)
		}
	}
	return len(kinds)
}

func alike(d api.Det, p, q int) bool {
	a, b := d, d
	a.Start, b.Start = p, q
	_, told := firstApart(a, b)
	return !told
}

// judge holds the queries against all that F1 and F2 say of them, and answers how many guesses there are and how
// long the longest word is.
func judge(t *testing.T, d api.Det, queries []api.Query) (guesses, longest int) {
	t.Helper()
	n := fewest(d)
	if len(queries) == 0 {
		t.Fatalf("%v: no query", d)
	}
	for i, q := range queries {
		longest = max(longest, len(q.Word))
		if len(q.Word) > api.MaxWord || len(q.Word) > 0 && (slices.Min(q.Word) < 0 || slices.Max(q.Word) >= d.Letters) {
			t.Fatalf("%v: query %d: %v is no word", d, i, q.Word)
		}
		if !q.Guessed {
			if want := (api.Query{Word: q.Word, Yes: accepts(d, q.Word)}); !reflect.DeepEqual(q, want) {
				t.Fatalf("%v: query %d: %v, not %v", d, i, q, want)
			}
			continue
		}
		guesses++
		if q.Guess.Letters != d.Letters || len(q.Guess.Next) > n || det.Check(q.Guess) != api.OK {
			t.Fatalf("%v: query %d: a guess that may not be: %v", d, i, q.Guess)
		}
		w, told := firstApart(d, q.Guess)
		if q.Yes || q.Right == told || !slices.Equal(q.Word, w) || q.Right != (i == len(queries)-1) {
			t.Fatalf("%v: query %d: %v: the guess is told apart by %v, %v", d, i, q, w, told)
		}
		agrees(t, q.Guess, queries[:i])
	}
	if guesses > n || guesses == 0 {
		t.Fatalf("%v: %d guesses, of %d states", d, guesses, n)
	}
	return guesses, longest
}

// agrees looks at what a guess makes of all answers ahead of it.
func agrees(t *testing.T, guess api.Det, ahead []api.Query) {
	t.Helper()
	for _, q := range ahead {
		want := q.Yes
		if q.Guessed {
			want = !accepts(q.Guess, q.Word)
		}
		if accepts(guess, q.Word) != want {
			t.Fatalf("%v does not agree with %v", guess, q)
		}
	}
}

// told are all queries that were seen, as ways that part by the answers: what is asked at each place, and where
// each answer leads to.
type told struct {
	asked  map[int]string
	onward map[string]int
}

func nothingTold() *told {
	return &told{map[int]string{}, map[string]int{}}
}

// hear goes the way of the queries, and answers the first one, if there is one, that was another one at the same
// place.
func (x *told) hear(queries []api.Query) string {
	at := 0
	for i, q := range queries {
		ask, answer := fmt.Sprint(q.Word), fmt.Sprint(q.Yes)
		if q.Guessed {
			ask, answer = fmt.Sprint("guess ", q.Guess), fmt.Sprint(q.Right, q.Word)
		}
		if x.asked[at] != "" && x.asked[at] != ask {
			return fmt.Sprintf("query %d is %s, and was %s", i, ask, x.asked[at])
		}
		x.asked[at] = ask
		key := fmt.Sprint(at, " ", answer)
		if x.onward[key] == 0 {
			x.onward[key] = len(x.onward) + 1
		}
		at = x.onward[key]
	}
	if x.asked[at] != "" {
		return "it ends, and went on: " + x.asked[at]
	}
	return ""
}

// try learns, and looks at all that is promised.
func try(t *testing.T, x *told, d api.Det) (guesses, longest int) {
	t.Helper()
	queries, e := learn.Learn(d)
	if e != api.OK {
		t.Fatalf("%v: %v", d, e)
	}
	guesses, longest = judge(t, d, queries)
	if s := x.hear(queries); s != "" {
		t.Fatalf("%v: %s", d, s)
	}
	return guesses, longest
}

// F1, F2, F3: all small automata.
func TestSmall(t *testing.T) {
	most := 0
	for letters, states := range [][]int{1: {1, 2, 3, 4}, 2: {1, 2, 3}, 3: {1, 2}, 4: {1, 2}} {
		x := nothingTold()
		for _, n := range states {
			small(letters, n, func(d api.Det) {
				guesses, _ := try(t, x, d)
				most = max(most, guesses)
			})
		}
	}
	if most < 2 {
		t.Error("never more than one guess")
	}
}

// F1, F2, F3: greater ones, and ones that differ from them by little.
func TestGreater(t *testing.T) {
	x, most, mostGuesses := dice(1), 0, 0
	heard := []*told{nothingTold(), nothingTold(), nothingTold(), nothingTold()}
	for i := range 600 {
		letters := 1 + i%4
		d := x.det(letters, 4+x.roll(9))
		for range 3 {
			guesses, _ := try(t, heard[letters-1], d)
			most, mostGuesses = max(most, fewest(d)), max(mostGuesses, guesses)
			d = x.altered(d)
		}
	}
	if most < 12 || mostGuesses < 3 {
		t.Error(most, mostGuesses)
	}
}

// F1, F2: ones that are hard to learn: those that a guess with fewer states is alike to for long.
func TestHard(t *testing.T) {
	x := dice(2)
	mostGuesses, mostLetters := 0, 0
	for i := range 200 {
		letters := 1 + i%4
		w := make([]int, 1+x.roll(10))
		for j := range w {
			w[j] = x.roll(letters)
		}
		for _, d := range []api.Det{alone(letters, w), lock(letters, w), ring(letters, 12, 1+x.roll(12)), ring(letters, 1+x.roll(12), 12)} {
			guesses, longest := try(t, nothingTold(), d)
			mostGuesses, mostLetters = max(mostGuesses, guesses), max(mostLetters, longest)
			try(t, nothingTold(), x.altered(d))
		}
	}
	if mostGuesses < 3 || mostLetters < 20 {
		t.Error(mostGuesses, mostLetters)
	}
}

// F1, F2: edges, by how many states they have that are apart: of one state the first guess is right.
func TestByHand(t *testing.T) {
	for _, x := range []struct {
		name   string
		d      api.Det
		states int
	}{
		{"all words", lines([]int{1}, []int{0, 0}), 1},
		{"no word", lines([]int{0}, []int{0}), 1},
		{"no word, what accepts is not come to", lines([]int{0, 1}, []int{0}, []int{0}), 1},
		{"all words, by many states", ring(4, 120, 1), 1},
		{"the empty word", alone(4, nil), 2},
		{"all but the empty word", lines([]int{0, 1}, []int{1}, []int{1}), 2},
		{"an even number of letters", ring(3, 2, 2), 2},
		{"the last letter tells", lines([]int{0, 1}, []int{0, 0, 0, 1}, []int{0, 0, 0, 1}), 2},
		{"the word 0 0", alone(1, []int{0, 0}), 4},
		{"twelve in a ring of many", ring(1, 120, 12), 12},
		{"a word of ten letters", alone(4, []int{3, 2, 1, 0, 3, 3, 2, 1, 0, 0}), 12},
		{"a lock of eleven letters", lock(2, []int{1, 1, 1, 1, 1, 1, 1, 1, 1, 1, 0}), 12},
	} {
		queries, e := learn.Learn(x.d)
		if e != api.OK || len(queries) == 0 {
			t.Error(x.name, e)
			continue
		}
		guesses, _ := judge(t, x.d, queries)
		last := queries[len(queries)-1]
		if len(last.Guess.Next) != x.states || guesses > x.states {
			t.Errorf("%s: %d guesses, the last one is %v, not of %d states", x.name, guesses, last, x.states)
		}
	}
}

// F2: what is learnt last is alike to what a text says.
func TestOfTexts(t *testing.T) {
	for _, text := range []string{"0", "1", "(a+b)*a", "(a+b)*a(a+b)", "(aa)*", "a*b", "(a+b)*abb", "ab(a+b)*ba", "(aaa+bb)*", "(a+b)*a(a+b)(a+b)"} {
		d, e := regular.Det(2, text)
		if e != api.OK {
			t.Fatal(text, e)
		}
		try(t, nothingTold(), d)
	}
}

// F3: how an automaton is written does not matter, but for its words: states that are alike, or not come to, and
// other numbers of states leave the queries as they are.
func TestOfWordsAlone(t *testing.T) {
	x := dice(3)
	for range 300 {
		d := x.det(1+x.roll(4), 1+x.roll(8))
		want, _ := learn.Learn(d)
		if got, e := learn.Learn(twice(d)); e != api.OK || !reflect.DeepEqual(got, want) {
			t.Fatalf("%v: %v, not %v", twice(d), got, want)
		}
	}
}

// twice has each state two times, in the other order, and one that is not come to.
func twice(d api.Det) api.Det {
	n := len(d.Next)
	out := api.Det{Letters: d.Letters, Start: 2*n - 1 - d.Start}
	for s := range 2 * n {
		of := (2*n - 1 - s) % n
		row := make([]int, d.Letters)
		for l := range row {
			row[l] = 2*n - 1 - d.Next[of][l] - n*((s+l)%2)
		}
		out.Next = append(out.Next, row)
		out.Mark = append(out.Mark, d.Mark[of])
	}
	out.Next = append(out.Next, make([]int, d.Letters))
	out.Mark = append(out.Mark, 1-d.Mark[0])
	return out
}

// F1: what is refused: C1's errors, then too many states.
func TestRefuses(t *testing.T) {
	for _, x := range []struct {
		name string
		d    api.Det
		want api.Errno
	}{
		{"zero", api.Det{}, api.ErrRange},
		{"no letters", api.Det{Next: [][]int{{}}, Mark: []int{0}}, api.ErrRange},
		{"five letters", ring(5, 1, 1), api.ErrRange},
		{"five letters, and too many states", ring(5, 3001, 1), api.ErrRange},
		{"no states", api.Det{Letters: 1}, api.ErrSize},
		{"too many states for any call", ring(1, 3001, 1), api.ErrSize},
		{"no marks", api.Det{Letters: 1, Next: [][]int{{0}}}, api.ErrShape},
		{"a row too long", api.Det{Letters: 1, Next: [][]int{{0, 0}}, Mark: []int{1}}, api.ErrShape},
		{"no state", lines([]int{1}, []int{1}), api.ErrRange},
		{"below all states", lines([]int{1}, []int{-1}), api.ErrRange},
		{"no start", api.Det{Letters: 1, Start: 1, Next: [][]int{{0}}, Mark: []int{1}}, api.ErrRange},
		{"no mark", lines([]int{2}, []int{0}), api.ErrRange},
		{"thirteen that are apart", ring(1, 13, 13), api.ErrSize},
		{"thirteen that are apart, of many", ring(2, 2600, 13), api.ErrSize},
		{"many that are apart", ring(1, 3000, 3000), api.ErrSize},
		{"thirteen, and no mark", api.Det{Letters: 1, Next: ring(1, 13, 13).Next, Mark: slices.Repeat([]int{3}, 13)}, api.ErrRange},
		{"thirteen, and too few marks", api.Det{Letters: 1, Next: ring(1, 13, 13).Next, Mark: []int{1}}, api.ErrShape},
		{"twelve that are apart", ring(1, 12, 12), api.OK},
		{"twelve that are apart, of many", ring(4, 3000, 12), api.OK},
		{"thirteen that are alike", ring(1, 13, 1), api.OK},
		{"twelve of thirteen that are come to", lines(append(ring(1, 12, 12).Mark, 1), append(ring(1, 12, 12).Next, []int{0})...), api.OK},
	} {
		queries, e := learn.Learn(x.d)
		if e != x.want || (e == api.OK) != (len(queries) > 0) {
			t.Errorf("%s: %v, %d queries, not %v", x.name, e, len(queries), x.want)
		}
	}
}

// lists answers all lists of numbers in queries.
func lists(queries []api.Query) []*[]int {
	var all []*[]int
	for i := range queries {
		q := &queries[i]
		all = append(all, &q.Word, &q.Guess.Mark)
		for s := range q.Guess.Next {
			all = append(all, &q.Guess.Next[s])
		}
	}
	return all
}

// P3: what is handed in is left as it is, nothing that comes out shares its memory, no two lists share any.
func TestMemory(t *testing.T) {
	roomy := func(row ...int) []int { return append(row, 99, 99)[:len(row)] }
	d := api.Det{Letters: 2, Next: [][]int{roomy(1, 0), roomy(1, 2), roomy(3, 2), roomy(0, 3), nil}[:4], Mark: roomy(0, 0, 0, 1)}
	before := deep(d)
	queries, _ := learn.Learn(d)
	want, _ := learn.Learn(d)
	if len(want) < 10 || !reflect.DeepEqual(queries, want) {
		t.Fatal(queries, want)
	}
	for i, p := range lists(queries) {
		*p = append(*p, i)
		for j := range *p {
			(*p)[j] = i
		}
	}
	for i, p := range lists(queries) {
		if len(*p) != 1+len(*lists(want)[i]) || slices.Min(*p) != i || slices.Max(*p) != i {
			t.Error("lists share memory:", i, *p)
		}
	}
	if !reflect.DeepEqual(d, before) || d.Mark[:5][4] != 99 {
		t.Error("changed:", d)
	}
	for _, row := range d.Next {
		if row[:3][2] != 99 {
			t.Error("changed behind its end:", row[:3])
		}
	}
	if again, _ := learn.Learn(d); !reflect.DeepEqual(again, want) {
		t.Error(again, want)
	}
}

// P3: the rows of two guesses are two lists of rows.
func TestRowsApart(t *testing.T) {
	d, _ := regular.Det(2, "(a+b)*a(a+b)(a+b)")
	queries, _ := learn.Learn(d)
	want, _ := learn.Learn(d)
	for i := range queries {
		rows := append(queries[i].Guess.Next, []int{9})
		for s := range rows {
			rows[s] = nil
		}
		queries[i].Guess.Next = nil
		if !reflect.DeepEqual(queries[i+1:], want[i+1:]) {
			t.Fatal("rows share memory:", i)
		}
	}
}

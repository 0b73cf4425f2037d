package logic_test

import (
	"slices"
	"strings"

	"evermore/api"
)

// A form is a formula that knows its text, and what it says, without a reader.
type form struct {
	op   byte // | & ! E A a b < = ~ and i: is in
	v, u byte // the variable of E, A; those of an atom, as they stand in it
	of   []*form
}

func some(v byte, f *form) *form    { return &form{op: 'E', v: v, of: []*form{f}} }
func all(v byte, f *form) *form     { return &form{op: 'A', v: v, of: []*form{f}} }
func not(f *form) *form             { return &form{op: '!', of: []*form{f}} }
func both(f ...*form) *form         { return &form{op: '&', of: f} }
func either(f ...*form) *form       { return &form{op: '|', of: f} }
func zero(v byte) *form             { return &form{op: 'a', v: v} }
func one(v byte) *form              { return &form{op: 'b', v: v} }
func pair(v byte, op, u byte) *form { return &form{op: op, v: v, u: u} }
func within(set, place byte) *form  { return &form{op: 'i', v: set, u: place} }
func (f *form) bound() bool         { return f.op == 'E' || f.op == 'A' }
func isSet(v byte) bool             { return v < 'a' }
func valueOf(v byte, e []value) int { return e[lastOf(v, e)].is }
func lastOf(v byte, e []value) (i int) {
	for i = len(e) - 1; e[i].name != v; i-- {
	}
	return i
}

// text puts brackets around each row of | or &.
func (f *form) text() string {
	switch f.op {
	case '|', '&':
		var parts []string
		for _, p := range f.of {
			parts = append(parts, p.text())
		}
		return "(" + strings.Join(parts, string(f.op)) + ")"
	case '!':
		return "!" + f.of[0].text()
	case 'E', 'A':
		return string(f.op) + string(f.v) + f.of[0].text()
	case 'a', 'b':
		return string(f.op) + string(f.v)
	case 'i':
		return string(f.v) + string(f.u)
	}
	return string(f.v) + string(f.op) + string(f.u)
}

// A value of a variable: a place, or the bits of places.
type value struct {
	name byte
	is   int
}

func (f *form) says(w []int, e []value) bool {
	switch f.op {
	case '|':
		return slices.ContainsFunc(f.of, func(p *form) bool { return p.says(w, e) })
	case '&':
		return !slices.ContainsFunc(f.of, func(p *form) bool { return !p.says(w, e) })
	case '!':
		return !f.of[0].says(w, e)
	case 'E', 'A':
		return f.tries(w, e)
	case 'a':
		return w[valueOf(f.v, e)] == 0
	case 'b':
		return w[valueOf(f.v, e)] == 1
	case '<':
		return valueOf(f.v, e) < valueOf(f.u, e)
	case '=':
		return valueOf(f.v, e) == valueOf(f.u, e)
	case '~':
		return valueOf(f.u, e)-valueOf(f.v, e) == 1
	}
	return valueOf(f.v, e)&(1<<valueOf(f.u, e)) != 0
}

func (f *form) tries(w []int, e []value) bool {
	many := len(w)
	if isSet(f.v) {
		many = 1 << len(w)
	}
	inner := append(slices.Clone(e), value{name: f.v})
	for is := range many {
		inner[len(e)].is = is
		if yes := f.of[0].says(w, inner); yes == (f.op == 'E') {
			return yes
		}
	}
	return f.op == 'A'
}

// tables answers, of each E and A of a formula, how many sets its table has, by what the formula says alone.
func (f *form) tables(around []byte) []int {
	var many []int
	inner := around
	if f.bound() {
		inner = append(slices.Clone(around), f.v)
		many = append(many, setsOf(learnt(f, inner)))
	}
	for _, p := range f.of {
		many = append(many, p.tables(inner)...)
	}
	return many
}

// accepts tells whether a marked word is one of those of which the table is made: the bits of a letter are the
// letter of the word, and behind it a mark a variable.
func (f *form) accepts(names []byte, marked []int) bool {
	w, e := make([]int, len(marked)), make([]value, len(names))
	for i, v := range names {
		e[i].name = v
		places := 0
		for at, l := range marked {
			w[at] = l & 1
			if l>>(i+1)&1 == 0 {
				continue
			}
			places++
			if isSet(v) {
				e[i].is |= 1 << at
			} else {
				e[i].is = at
			}
		}
		if !isSet(v) && places != 1 {
			return false
		}
	}
	return f.of[0].says(w, e) == (f.op == 'E')
}

// learnt answers an automaton whose states are what the words behind a word can do: no two are alike, as far as
// short words tell.
func learnt(f *form, names []byte) api.Det {
	letters := 2 << len(names)
	var behind [][]int
	words(letters, 6-len(names), func(w []int) { behind = append(behind, w) })
	sees := func(w []int) string {
		var s strings.Builder
		for _, x := range behind {
			if f.accepts(names, slices.Concat(w, x)) {
				s.WriteByte('y')
			} else {
				s.WriteByte('n')
			}
		}
		return s.String()
	}
	d := api.Det{Letters: letters}
	number := map[string]int{sees(nil): 0}
	heads := [][]int{nil}
	for i := 0; i < len(heads); i++ {
		var row []int
		for l := range letters {
			w := append(slices.Clone(heads[i]), l)
			s := sees(w)
			if _, known := number[s]; !known {
				number[s] = len(heads)
				heads = append(heads, w)
			}
			row = append(row, number[s])
		}
		d.Next = append(d.Next, row)
	}
	return d
}

// setsOf counts the sets of states that words without the last mark lead to.
func setsOf(d api.Det) int {
	type set [64]bool
	sets := []set{{0: true}}
	for i := 0; i < len(sets); i++ {
		for l := range d.Letters / 2 {
			var to set
			for s, is := range sets[i] {
				if is {
					to[d.Next[s][l]] = true
					to[d.Next[s][l+d.Letters/2]] = true
				}
			}
			if !slices.Contains(sets, to) {
				sets = append(sets, to)
			}
		}
	}
	return len(sets)
}

// words calls see with each word of at most n letters.
func words(letters, n int, see func([]int)) {
	row := [][]int{{}}
	for range n + 1 {
		var longer [][]int
		for _, w := range row {
			see(w)
			for l := range letters {
				longer = append(longer, append(slices.Clone(w), l))
			}
		}
		row = longer
	}
}

// dice is a row of numbers that looks like chance, and is the same each time.
type dice uint32

func (x *dice) roll(n int) int {
	*x = *x*1664525 + 1013904223
	return int(*x>>8) % n
}

func (x *dice) of(s string) byte { return s[x.roll(len(s))] }

// form makes a formula of about so many nodes at most, within variables that stand around.
func (x *dice) form(size int, around string) *form {
	places := strings.NewReplacer("X", "", "Y", "", "Z", "").Replace(around)
	switch k := x.roll(8); {
	case len(around) < 3 && (len(places) == 0 || size > 1 && k < 3):
		v := x.of("xyzXYZ")
		if len(around) == 2 && len(places) == 0 {
			v = x.of("xyz")
		}
		return &form{op: x.of("EA"), v: v, of: []*form{x.form(size-1, around+string(v))}}
	case size > 2 && k < 6:
		return &form{op: x.of("|&"), of: []*form{x.form((size-1)/2, around), x.form((size-1)/2, around)}}
	case size > 1 && k == 6:
		return not(x.form(size-1, around))
	}
	return x.atom(around, places)
}

func (x *dice) atom(around, places string) *form {
	p := x.of(places)
	switch v := x.of(around); {
	case isSet(v):
		return within(v, p)
	case x.roll(3) == 0:
		return &form{op: x.of("ab"), v: p}
	default:
		return pair(p, x.of("<=~"), v)
	}
}

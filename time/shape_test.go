package time_test

import (
	"evermore/api"
)

// A shape is a formula that knows its text, and what it says, without a reader.
type shape struct {
	op byte // | & U R ! X F G p q 0 1
	of []*shape
}

// level tells which rule of the grammar makes it: 0 is a formula, 3 is a one.
func (f *shape) level() int {
	switch f.op {
	case '|':
		return 0
	case '&':
		return 1
	case 'U', 'R':
		return 2
	}
	return 3
}

// text puts brackets just where the grammar asks for them.
func (f *shape) text(level int) string {
	if f.level() < level {
		return "(" + f.text(0) + ")"
	}
	op := string(rune(f.op))
	switch f.op {
	case '|', '&':
		return f.of[0].text(f.level()) + op + f.of[1].text(f.level()+1)
	case 'U', 'R':
		return f.of[0].text(3) + op + f.of[1].text(2)
	case '!', 'X', 'F', 'G':
		return op + f.of[0].text(3)
	}
	return op
}

// count answers how many nodes there are, and how many of them are of time.
func (f *shape) count() (nodes, times int) {
	nodes = 1
	switch f.op {
	case 'X', 'F', 'G', 'U', 'R':
		times = 1
	}
	for _, g := range f.of {
		n, t := g.count()
		nodes, times = nodes+n, times+t
	}
	return nodes, times
}

// says tells by the chapter's words whether it is true at a place. What comes later than once around is nothing new.
func (f *shape) says(l api.Lasso, at int) bool {
	if at >= len(l.Head)+len(l.Loop) {
		at = len(l.Head) + (at-len(l.Head))%len(l.Loop)
	}
	letter := 0
	if at < len(l.Head) {
		letter = l.Head[at]
	} else {
		letter = l.Loop[at-len(l.Head)]
	}
	of := func(i, more int) bool { return f.of[i].says(l, at+more) }
	around := len(l.Head) + len(l.Loop)
	switch f.op {
	case '1':
		return true
	case 'p':
		return letter == 1 || letter == 3
	case 'q':
		return letter == 2 || letter == 3
	case '!':
		return !of(0, 0)
	case '&':
		return of(0, 0) && of(1, 0)
	case '|':
		return of(0, 0) || of(1, 0)
	case 'X':
		return of(0, 1)
	case 'F':
		for more := range around {
			if of(0, more) {
				return true
			}
		}
	case 'G':
		for more := range around {
			if !of(0, more) {
				return false
			}
		}
		return true
	case 'U':
		for more := 0; more < around; more++ {
			if of(1, more) {
				return true
			}
			if !of(0, more) {
				return false
			}
		}
	case 'R':
		for more := range around {
			if !of(1, more) {
				return false
			}
			if of(0, more) {
				return true
			}
		}
		return true
	}
	return false
}

// shapes answers all with so many nodes, and at most so many of time.
func shapes(nodes, times int) []*shape {
	var out []*shape
	if nodes == 1 {
		for _, op := range []byte("pq01") {
			out = append(out, &shape{op: op})
		}
		return out
	}
	for _, op := range []byte("!XFG") {
		for _, f := range shapes(nodes-1, times) {
			out = append(out, &shape{op, []*shape{f}})
		}
	}
	for left := 1; left < nodes-1; left++ {
		for _, f := range shapes(left, times) {
			for _, g := range shapes(nodes-1-left, times) {
				for _, op := range []byte("|&UR") {
					out = append(out, &shape{op, []*shape{f, g}})
				}
			}
		}
	}
	few := out[:0]
	for _, f := range out {
		if _, t := f.count(); t <= times {
			few = append(few, f)
		}
	}
	return few
}

// dice is a row of numbers that looks like chance, and is the same each time.
type dice uint32

func (x *dice) roll(n int) int {
	*x = *x*1664525 + 1013904223
	return int(*x>>8) % n
}

func (x *dice) pick(ops string) byte { return ops[x.roll(len(ops))] }

// shape answers one with so many nodes, and at most so many of time, of which it takes those away.
func (x *dice) shape(nodes int, times *int) *shape {
	if nodes == 1 {
		return &shape{op: x.pick("ppppqqqq01")}
	}
	one, two := "!", "|&"
	if *times > 0 {
		one, two = "!XXXFFFGGG", "|&UUURRR"
	}
	f := &shape{op: x.pick(two)}
	if nodes == 2 || x.roll(3) == 0 {
		f.op = x.pick(one)
	}
	if f.level() == 2 || f.op == 'X' || f.op == 'F' || f.op == 'G' {
		*times--
	}
	if f.op == '!' || f.op == 'X' || f.op == 'F' || f.op == 'G' {
		f.of = []*shape{x.shape(nodes-1, times)}
		return f
	}
	left := 1 + x.roll(nodes-2)
	f.of = []*shape{x.shape(left, times), x.shape(nodes-1-left, times)}
	return f
}

func (x *dice) word(n int) []int {
	w := make([]int, n)
	for i := range w {
		w[i] = x.roll(4)
	}
	return w
}

func (x *dice) lasso(head, loop int) api.Lasso {
	return api.Lasso{Head: x.word(x.roll(head + 1)), Loop: x.word(1 + x.roll(loop))}
}

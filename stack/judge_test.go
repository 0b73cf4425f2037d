package stack_test

import (
	"fmt"
	"slices"
	"strings"
	"testing"

	"evermore/api"
	"evermore/det"
	"evermore/stack"
)

// at reads a config: its control, then its signs as letters, the topmost first: 0ab.
func at(text string) api.Config {
	return api.Config{Control: int(text[0] - '0'), Stack: signs(text[1:])}
}

func signs(text string) []int {
	var out []int
	for _, b := range []byte(text) {
		out = append(out, int(b-'a'))
	}
	return out
}

// rules reads rules: 0a>1bc takes the sign a away in the control 0, and puts b above c, in the control 1.
func rules(text string) []api.Push {
	var l []api.Push
	for _, r := range strings.Fields(text) {
		from, to, _ := strings.Cut(r, ">")
		f, c := at(from), at(to)
		l = append(l, api.Push{From: f.Control, Top: f.Stack[0], To: c.Control, Put: c.Stack})
	}
	return l
}

// words answers all of up to so many signs.
func words(most int) [][]int {
	out := [][]int{nil}
	for i := 0; len(out[i]) < most; i++ {
		for sign := range 3 {
			out = append(out, append(slices.Clone(out[i]), sign))
		}
	}
	return out
}

// configs answers all with up to so many signs.
func configs(most int) []api.Config {
	var out []api.Config
	for _, w := range words(most) {
		for control := range 3 {
			out = append(out, api.Config{Control: control, Stack: w})
		}
	}
	return out
}

func same(c, d api.Config) bool {
	return c.Control == d.Control && slices.Equal(c.Stack, d.Stack)
}

// done does a rule, at whatever depth, by the words of N1, and tells whether it can be done.
func done(r api.Push, c api.Config) (api.Config, bool) {
	if len(c.Stack) == 0 || c.Control != r.From || c.Stack[0] != r.Top {
		return api.Config{}, false
	}
	return api.Config{Control: r.To, Stack: append(slices.Clone(r.Put), c.Stack[1:]...)}, true
}

// leads tells whether rules, one behind the other, can be done from a config, and lead to the goal.
func leads(l []api.Push, from, goal api.Config, way []int) bool {
	for _, i := range way {
		if i < 0 || i >= len(l) {
			return false
		}
		c, can := done(l[i], from)
		if !can {
			return false
		}
		from = c
	}
	return same(from, goal)
}

// full stands for how many rules a way has where there is one, but none that is short enough; no for none at all.
const (
	full = -1
	no   = -2
)

// ask answers how many rules Way's way has. That these lead to the goal, it sees for itself.
func ask(t *testing.T, l []api.Push, from, goal api.Config) int {
	t.Helper()
	way, can, e := stack.Way(l, from, goal)
	if (e != api.OK || !can) && len(way) > 0 || e != api.OK && can {
		t.Fatal(l, from, goal, "more than is asked for:", way, can, e)
	}
	switch {
	case e == api.ErrFull:
		return full
	case e != api.OK:
		t.Fatal(l, from, goal, e)
	case !can:
		return no
	case len(way) > 2000:
		t.Fatal(l, from, goal, "too many rules:", len(way))
	case !leads(l, from, goal, way):
		t.Fatal(l, from, goal, "does not lead there:", way)
	}
	return len(way)
}

// before answers Before's automata of a goal that may be. Each must be a least one, and nothing may lead to what they
// accept but what they accept: so they accept all from which the goal can be come to. (That it can be come to from all
// that they accept, the ways tell.)
func before(t *testing.T, l []api.Push, goal api.Config) []api.Det {
	t.Helper()
	d, e := stack.Before(l, goal)
	if e != api.OK || len(d) != 3 {
		t.Fatal(l, goal, d, e)
	}
	if wrong := judgeBefore(l, goal, d); wrong != "" {
		t.Fatal(l, goal, d, wrong)
	}
	return d
}

func judgeBefore(l []api.Push, goal api.Config, d []api.Det) string {
	for control, x := range d {
		least, e := det.Least(x)
		if e != api.OK || x.Letters != 3 || fmt.Sprint(least) != fmt.Sprint(x) {
			return fmt.Sprint("no least automaton: ", control, e)
		}
	}
	if !accepts(d, goal) {
		return "the goal is not accepted"
	}
	for _, r := range l {
		behind, ahead := d[r.To], d[r.From]
		behind.Start, ahead.Start = state(behind, r.Put), state(ahead, []int{r.Top})
		only, e := det.Mixed(behind, ahead, 4)
		if e != api.OK || len(only.Next) > 1 || only.Mark[0] == 1 {
			return fmt.Sprint("what leads there is not accepted: ", r)
		}
	}
	return ""
}

func state(d api.Det, w []int) int {
	s := d.Start
	for _, x := range w {
		s = d.Next[s][x]
	}
	return s
}

func accepts(d []api.Det, c api.Config) bool {
	x := d[c.Control]
	return x.Mark[state(x, c.Stack)] == 1
}

// A span has the numbers, up to a limit, of rules one behind the other by which something can be done.
type span struct {
	has  []bool
	list []int
}

func newSpan(limit int) *span { return &span{has: make([]bool, limit+1)} }

func (s *span) add(n int) {
	if n < len(s.has) && !s.has[n] {
		s.has[n] = true
		s.list = append(s.list, n)
	}
}

// meet tells whether a number of the one and a number of the other are n together.
func meet(s, t *span, n int) bool {
	return slices.ContainsFunc(s.list, func(i int) bool { return i <= n && t.has[n-i] })
}

// addSums adds each number of the one and of the other together.
func (s *span) addSums(t, u *span) {
	for _, i := range t.list {
		for _, j := range u.list {
			s.add(i + j)
		}
	}
}

// A judge knows, by counting up from no rules at all, from which sign alone (in which control) just so many rules lead
// to no sign (in which control), or to the goal's control with so many of the goal's first signs.
type judge struct {
	goal  api.Config
	limit int
	pops  [3][3][3]*span
	ends  [3][3][4]*span
}

func newJudge(l []api.Push, goal api.Config, limit int) *judge {
	j := &judge{goal: goal, limit: limit}
	for p := range 3 {
		for sign := range 3 {
			for q := range 3 {
				j.pops[p][sign][q] = newSpan(limit)
			}
			for i := range 4 {
				j.ends[p][sign][i] = newSpan(limit)
			}
		}
	}
	if len(goal.Stack) > 0 {
		j.ends[goal.Control][goal.Stack[0]][1].add(0)
	}
	for n := range limit {
		for _, r := range l {
			j.count(r, n)
		}
	}
	return j
}

// count does a rule ahead of n others.
func (j *judge) count(r api.Push, n int) {
	for q := range 3 {
		if j.popsBehind(r, q, n) {
			j.pops[r.From][r.Top][q].add(n + 1)
		}
	}
	for i := 1; i <= len(j.goal.Stack); i++ {
		if j.endsBehind(r, i, n) {
			j.ends[r.From][r.Top][i].add(n + 1)
		}
	}
}

func (j *judge) popsBehind(r api.Push, q, n int) bool {
	switch len(r.Put) {
	case 0:
		return r.To == q && n == 0
	case 1:
		return j.pops[r.To][r.Put[0]][q].has[n]
	}
	for mid := range 3 {
		if meet(j.pops[r.To][r.Put[0]][mid], j.pops[mid][r.Put[1]][q], n) {
			return true
		}
	}
	return false
}

func (j *judge) endsBehind(r api.Push, i, n int) bool {
	switch len(r.Put) {
	case 0:
		return false
	case 1:
		return j.ends[r.To][r.Put[0]][i].has[n]
	}
	for mid := range 3 {
		if meet(j.pops[r.To][r.Put[0]][mid], j.ends[mid][r.Put[1]][i], n) {
			return true
		}
	}
	return r.Put[1] == j.goal.Stack[i-1] && j.ends[r.To][r.Put[0]][i-1].has[n]
}

// fewest answers how many rules the shortest way has, if it has no more than the limit; else no.
func (j *judge) fewest(c api.Config) int {
	row, out := [3]*span{newSpan(j.limit), newSpan(j.limit), newSpan(j.limit)}, newSpan(j.limit)
	row[c.Control].add(0)
	for k, sign := range c.Stack {
		next := [3]*span{newSpan(j.limit), newSpan(j.limit), newSpan(j.limit)}
		for p, s := range row {
			for q := range 3 {
				next[q].addSums(s, j.pops[p][sign][q])
			}
			for i := 1; i <= len(j.goal.Stack); i++ {
				if slices.Equal(j.goal.Stack[i:], c.Stack[k+1:]) {
					out.addSums(s, j.ends[p][sign][i])
				}
			}
		}
		row = next
	}
	if len(j.goal.Stack) == 0 {
		out.addSums(row[j.goal.Control], &span{list: []int{0}})
	}
	if len(out.list) == 0 {
		return no
	}
	return slices.Min(out.list)
}

// tried answers how many rules the shortest way has, by doing all that can be done, if it has no more than the limit;
// else no.
func tried(l []api.Push, from, goal api.Config, limit int) int {
	level, known := []api.Config{from}, map[string]bool{}
	for n := range limit + 1 {
		var next []api.Config
		for _, c := range level {
			if same(c, goal) {
				return n
			}
			for _, r := range l {
				d, can := done(r, c)
				if can && !known[fmt.Sprint(d)] {
					known[fmt.Sprint(d)] = true
					next = append(next, d)
				}
			}
		}
		level = next
	}
	return no
}

// dice is a row of numbers that looks like chance, and is the same each time.
type dice uint32

func (x *dice) roll(n int) int {
	*x = *x*1664525 + 1013904223
	return int(*x>>8) % n
}

func (x *dice) row(many int) []int {
	var out []int
	for range many {
		out = append(out, x.roll(3))
	}
	return out
}

func (x *dice) config(most int) api.Config {
	return api.Config{Control: x.roll(3), Stack: x.row(x.roll(most + 1))}
}

func (x *dice) rule() api.Push {
	return api.Push{From: x.roll(3), Top: x.roll(3), To: x.roll(3), Put: x.row(x.roll(3))}
}

func (x *dice) rules(many int) []api.Push {
	var l []api.Push
	for range many {
		l = append(l, x.rule())
	}
	return l
}

// walk goes from a config with up to so many signs, as far as rules lead, but no further than so many. It answers the
// rules, the last config that may be a goal, and those that it passed through.
func (x *dice) walk(deep, far int) (l []api.Push, goal api.Config, passed []api.Config) {
	l, goal = x.spread(8), x.config(3)
	c, can := x.config(deep), true
	for i := 0; can && i < far; i++ {
		if len(c.Stack) <= 3 {
			goal = c
		}
		if len(c.Stack) <= api.MaxDeep {
			passed = append(passed, c)
		}
		c, can = x.onward(l, c)
	}
	return l, goal, passed
}

// spread has rules at nearly all controls and signs; so much can be done.
func (x *dice) spread(many int) []api.Push {
	l := x.rules(many)
	for i := range l {
		head := 4 * (i + x.roll(2))
		l[i].From, l[i].Top = head/3%3, head%3
	}
	return l
}

func (x *dice) onward(l []api.Push, c api.Config) (api.Config, bool) {
	first := x.roll(len(l))
	for i := range l {
		if d, can := done(l[(first+i)%len(l)], c); can {
			return d, true
		}
	}
	return api.Config{}, false
}

package synth_test

import (
	"reflect"
	"slices"
	"testing"

	"evermore/api"
	"evermore/synth"
)

// parity says, hearing first, whether it has heard 1 an odd number of times. Its start is not the first state.
func parity() api.Machine {
	return api.Machine{Start: 1, Says: [][2]int{{1, 0}, {0, 1}}, Next: [][2]int{{0, 1}, {1, 0}}}
}

// repeats says, ahead of hearing, what it heard the turn before; 1 at first.
func repeats() api.Machine {
	return api.Machine{First: true, Start: 2, Says: [][2]int{{0, 0}, {1, 1}, {1, 1}}, Next: [][2]int{{0, 1}, {0, 1}, {0, 1}}}
}

// still stays in each state, and says 0.
func still(first bool, states int) api.Machine {
	m := api.Machine{First: first, Says: make([][2]int, states)}
	for s := range states {
		m.Next = append(m.Next, [2]int{s, s})
	}
	return m
}

// K2, by hand.
func TestSays(t *testing.T) {
	for _, x := range []struct {
		name        string
		m           api.Machine
		heard, want []int
	}{
		{"hears nothing", parity(), nil, nil},
		{"hears nothing, in an empty list", repeats(), []int{}, nil},
		{"hears first", parity(), []int{0, 1, 0, 1, 1, 1, 0}, []int{0, 1, 1, 0, 1, 0, 0}},
		{"says first", repeats(), []int{0, 1, 1, 0, 0}, []int{1, 0, 1, 1, 0}},
		{"what is heard at last matters not", repeats(), []int{0, 1, 1, 0, 1}, []int{1, 0, 1, 1, 0}},
		{"its last state is the start", api.Machine{Start: 1, Says: [][2]int{{1, 1}, {0, 0}}, Next: [][2]int{{0, 0}, {1, 0}}},
			[]int{0, 1, 0, 1}, []int{0, 0, 1, 1}},
		{"says what it says for what is heard", api.Machine{Says: [][2]int{{1, 0}}, Next: [][2]int{{0, 0}}},
			[]int{0, 1, 1}, []int{1, 0, 0}},
		{"unlike things, where it does not say first", api.Machine{Says: [][2]int{{0, 1}}, Next: [][2]int{{0, 0}}},
			[]int{0, 1, 1}, []int{0, 1, 1}},
		{"says first, one state", still(true, 1), []int{1, 1}, []int{0, 0}},
		{"60 numbers", parity(), slices.Repeat([]int{1}, 60), slices.Repeat([]int{1, 0}, 30)},
		{"20000 states", still(false, 20000), []int{1, 0}, []int{0, 0}},
		{"20000 states, says first", still(true, 20000), []int{1, 0}, []int{0, 0}},
	} {
		if l, e := synth.Says(x.m, x.heard); !slices.Equal(l, x.want) || e != api.OK {
			t.Errorf("%s: %v %v, not %v", x.name, l, e, x.want)
		}
	}
}

// K2, in the order of its errors.
func TestSaysRefuses(t *testing.T) {
	for _, x := range []struct {
		name   string
		change func(m *api.Machine, heard *[]int)
		want   api.Errno
	}{
		{"nothing", func(m *api.Machine, _ *[]int) { *m = api.Machine{} }, api.ErrSize},
		{"no states, in empty lists", func(m *api.Machine, _ *[]int) { m.Says, m.Next = m.Says[:0], m.Next[:0] }, api.ErrSize},
		{"20001 states", func(m *api.Machine, _ *[]int) { *m = still(true, 20001) }, api.ErrSize},
		{"Next too short", func(m *api.Machine, _ *[]int) { m.Next = m.Next[:2] }, api.ErrSize},
		{"Next too long", func(m *api.Machine, _ *[]int) { m.Next = append(m.Next, [2]int{}) }, api.ErrSize},
		{"no Next", func(m *api.Machine, _ *[]int) { m.Next = nil }, api.ErrSize},
		{"no Says", func(m *api.Machine, _ *[]int) { m.Says = nil }, api.ErrSize},
		{"size ahead of the start", func(m *api.Machine, _ *[]int) { m.Start, m.Next = 9, m.Next[:2] }, api.ErrSize},
		{"size ahead of a state", func(m *api.Machine, _ *[]int) { m.Says, m.Next[0][0] = m.Says[:2], -1 }, api.ErrSize},
		{"size ahead of what is said", func(m *api.Machine, _ *[]int) { m.Next, m.Says[0][0] = m.Next[:2], 2 }, api.ErrSize},
		{"the start beyond", func(m *api.Machine, _ *[]int) { m.Start = 3 }, api.ErrRange},
		{"the start below", func(m *api.Machine, _ *[]int) { m.Start = -1 }, api.ErrRange},
		{"the start far beyond", func(m *api.Machine, _ *[]int) { m.Start = 1<<63 - 1 }, api.ErrRange},
		{"a state beyond", func(m *api.Machine, _ *[]int) { m.Next[2][1] = 3 }, api.ErrRange},
		{"a state below", func(m *api.Machine, _ *[]int) { m.Next[0][0] = -1 }, api.ErrRange},
		{"a state far below", func(m *api.Machine, _ *[]int) { m.Next[1][0] = -1 << 63 }, api.ErrRange},
		{"says 2", func(m *api.Machine, _ *[]int) { m.Says[0] = [2]int{2, 2} }, api.ErrRange},
		{"says less than 0", func(m *api.Machine, _ *[]int) { m.Says[2] = [2]int{-1, -1} }, api.ErrRange},
		{"range ahead of shape", func(m *api.Machine, _ *[]int) { m.Says[0] = [2]int{0, 2} }, api.ErrRange},
		{"a late range ahead of shape", func(m *api.Machine, _ *[]int) { m.Says[0], m.Next[2][1] = [2]int{0, 1}, 3 }, api.ErrRange},
		{"the start ahead of shape", func(m *api.Machine, _ *[]int) { m.Says[0], m.Start = [2]int{0, 1}, 3 }, api.ErrRange},
		{"range, where it hears first", func(m *api.Machine, _ *[]int) { m.First, m.Says[1][1] = false, 2 }, api.ErrRange},
		{"says unlike things", func(m *api.Machine, _ *[]int) { m.Says[0] = [2]int{0, 1} }, api.ErrShape},
		{"says unlike things in a state that never comes", func(m *api.Machine, _ *[]int) { m.Start, m.Says[2] = 0, [2]int{1, 0} }, api.ErrShape},
		{"shape ahead of much that is heard", func(m *api.Machine, heard *[]int) { m.Says[0], *heard = [2]int{0, 1}, make([]int, 61) }, api.ErrShape},
		{"shape ahead of what cannot be heard", func(m *api.Machine, heard *[]int) { m.Says[0], *heard = [2]int{0, 1}, []int{2} }, api.ErrShape},
		{"hears 61 numbers", func(_ *api.Machine, heard *[]int) { *heard = make([]int, 61) }, api.ErrSize},
		{"hears very many", func(_ *api.Machine, heard *[]int) { *heard = make([]int, 1000000) }, api.ErrSize},
		{"much ahead of what cannot be heard", func(_ *api.Machine, heard *[]int) { *heard = slices.Repeat([]int{2}, 61) }, api.ErrSize},
		{"the start ahead of much", func(m *api.Machine, heard *[]int) { m.Start, *heard = 3, make([]int, 61) }, api.ErrRange},
		{"hears 2", func(_ *api.Machine, heard *[]int) { *heard = []int{0, 1, 2} }, api.ErrRange},
		{"hears less than 0", func(_ *api.Machine, heard *[]int) { *heard = []int{-1, 0, 0} }, api.ErrRange},
		{"hears what is far below", func(_ *api.Machine, heard *[]int) { *heard = []int{0, -1 << 63} }, api.ErrRange},
		{"a wrong machine hears nothing", func(m *api.Machine, heard *[]int) { m.Next[0][1], *heard = 3, nil }, api.ErrRange},
	} {
		m, heard := repeats(), []int{0, 1}
		if l, e := synth.Says(m, heard); e != api.OK || len(l) != 2 {
			t.Fatal(l, e)
		}
		x.change(&m, &heard)
		if l, e := synth.Says(m, heard); e != x.want || len(l) != 0 {
			t.Errorf("%s: %v, %v, not %v", x.name, l, e, x.want)
		}
	}
}

// K3: G1's errors, then letters, then states.
func TestAnswerRefuses(t *testing.T) {
	many := func(letters, states int) api.Auto { return api.Auto{Letters: letters, States: states} }
	for _, x := range []struct {
		name   string
		change func(a *api.Auto)
		want   api.Errno
	}{
		{"nothing", func(a *api.Auto) { *a = api.Auto{} }, api.ErrRange},
		{"five letters", func(a *api.Auto) { a.Letters = 5 }, api.ErrRange},
		{"fewer than no letters", func(a *api.Auto) { a.Letters = -4 }, api.ErrRange},
		{"five letters ahead of states", func(a *api.Auto) { *a = many(5, 301) }, api.ErrRange},
		{"no states", func(a *api.Auto) { *a = many(4, 0) }, api.ErrSize},
		{"301 states", func(a *api.Auto) { *a = many(4, 301) }, api.ErrSize},
		{"301 states ahead of three letters", func(a *api.Auto) { *a = many(3, 301) }, api.ErrSize},
		{"too many steps ahead of three letters", func(a *api.Auto) { a.Letters, a.Steps = 3, make([]api.Step, 40001) }, api.ErrSize},
		{"a start that is no state", func(a *api.Auto) { a.Start = []int{2} }, api.ErrRange},
		{"a final that is no state", func(a *api.Auto) { a.Final = []int{-1} }, api.ErrRange},
		{"a step by no letter", func(a *api.Auto) { a.Steps[0].Letter = 4 }, api.ErrRange},
		{"a step to no state", func(a *api.Auto) { a.Steps[0].To = 2 }, api.ErrRange},
		{"a step by a letter that only four have", func(a *api.Auto) { a.Letters = 3 }, api.ErrRange},
		{"starts that do not rise", func(a *api.Auto) { a.Start = []int{0, 0} }, api.ErrShape},
		{"finals that do not rise", func(a *api.Auto) { a.Final = []int{1, 0} }, api.ErrShape},
		{"steps that do not rise", func(a *api.Auto) { a.Steps[0], a.Steps[1] = a.Steps[1], a.Steps[0] }, api.ErrShape},
		{"range ahead of three letters", func(a *api.Auto) { a.Letters, a.Steps, a.Start = 3, nil, []int{2} }, api.ErrRange},
		{"range ahead of five states", func(a *api.Auto) { a.States, a.Start = 5, []int{5} }, api.ErrRange},
		{"falling ahead of five states", func(a *api.Auto) { a.States, a.Start = 5, []int{1, 0} }, api.ErrShape},
		{"three letters", func(a *api.Auto) { a.Letters, a.Steps = 3, nil }, api.ErrShape},
		{"two letters", func(a *api.Auto) { *a = many(2, 1) }, api.ErrShape},
		{"one letter", func(a *api.Auto) { *a = many(1, 4) }, api.ErrShape},
		{"three letters ahead of five states", func(a *api.Auto) { *a = many(3, 5) }, api.ErrShape},
		{"one letter ahead of 300 states", func(a *api.Auto) { *a = many(1, 300) }, api.ErrShape},
		{"five states", func(a *api.Auto) { a.States = 5 }, api.ErrSize},
		{"300 states", func(a *api.Auto) { *a = many(4, 300) }, api.ErrSize},
	} {
		a := late()
		if _, can, e := synth.Answer(a); e != api.OK || !can {
			t.Fatal(can, e)
		}
		x.change(&a)
		if m, can, e := synth.Answer(a); e != x.want || can || !reflect.DeepEqual(m, api.Machine{}) {
			t.Errorf("%s: %v, %v, %v, not %v", x.name, m, can, e, x.want)
		}
	}
}

// K1, K3, K4: who can, by hand.
func TestByHand(t *testing.T) {
	x := dice(1)
	for _, w := range []struct {
		name string
		a    api.Auto
		can  bool
	}{
		{"echo", echo(), true},
		{"late", late(), true},
		{"oddly", oddly(), true},
		{"early, the chapter's example", early(), false},
		{"once", once(), false},
		{"both", both(), true},
		{"oracle", oracle(), false},
		{"settles", settles(), false},
		{"never", never(), false},
		{"always", always(), true},
		{"no start", wished(nil, []int{0}, way{0, either, either, 0}), false},
		{"no steps", api.Auto{Letters: 4, States: 1, Start: []int{0}, Final: []int{0}}, false},
		{"no steps, four states", api.Auto{Letters: 4, States: 4, Start: []int{0, 1, 2, 3}, Final: []int{0, 1, 2, 3}}, false},
		{"the world always says 1", wished([]int{0}, []int{0}, way{0, 1, either, 0}), false},
		{"the answerer always says 1", wished([]int{0}, []int{0}, way{0, either, 1, 0}), true},
		{"the world says 1 once", wished([]int{0}, []int{1}, way{0, 0, either, 0}, way{0, 1, either, 1}, way{1, either, either, 1}), false},
		{"the answerer says 1 once", wished([]int{0}, []int{1}, way{0, either, 0, 0}, way{0, either, 1, 1}, way{1, either, either, 1}), true},
		{"the answerer says 1 again and again", wished([]int{0}, []int{1},
			way{0, either, 0, 0}, way{0, either, 1, 1}, way{1, either, 0, 0}, way{1, either, 1, 1}), true},
		{"and 0 again and again", wished([]int{0}, []int{2},
			way{0, either, 0, 0}, way{0, either, 1, 1}, way{1, either, 1, 1}, way{1, either, 0, 2}, way{2, either, 0, 0}, way{2, either, 1, 1}), true},
		{"not the first thing that is said", wished([]int{0}, []int{1}, way{0, 1, 0, 1}, way{0, 0, 1, 1}, way{1, either, either, 1}), true},
		{"not the first thing that the other says behind it", wished([]int{0}, []int{3},
			way{0, either, 0, 1}, way{0, either, 1, 2}, way{1, 1, either, 3}, way{2, 0, either, 3}, way{3, either, either, 3}), false},
		{"one start of two can", wished([]int{0, 1}, []int{0, 1}, way{0, 1, either, 0}, way{1, either, 1, 1}), true},
		{"each start for one thing that the world says at first", wished([]int{0, 1}, []int{2},
			way{0, 0, 0, 2}, way{1, 1, 1, 2}, way{2, either, either, 2}), true},
		{"the final state is left", wished([]int{0}, []int{0}, way{0, either, either, 1}, way{1, either, either, 1}), false},
	} {
		m, can := try(t, w.a)
		if can != w.can || m.First == w.can {
			t.Errorf("%s: %v %v, not %v", w.name, can, m, w.can)
		}
		if hear(t, w.a, m, can, &x, 100) < 100 {
			t.Errorf("%s: lassos are too long", w.name)
		}
	}
}

// K1, K2, K3: wishes, and one that is barred, by which all that is said can be one thing alone.
func TestNoChoice(t *testing.T) {
	x := dice(2)
	for _, w := range []struct {
		name string
		a    api.Auto
		says func(heard []int, i int) int
	}{
		{"echo", echo(), func(heard []int, i int) int { return heard[i] }},
		{"late", late(), func(heard []int, i int) int { return append([]int{0}, heard...)[i] }},
		{"oddly", oddly(), func(heard []int, i int) int {
			n := 0
			for _, x := range heard[:i+1] {
				n += x
			}
			return n % 2
		}},
		{"once", once(), func(heard []int, i int) int { return 1 - append([]int{1}, heard...)[i] }},
	} {
		m, _ := try(t, w.a)
		for n := range 61 {
			heard := x.heard(n)
			l, e := synth.Says(m, heard)
			if e != api.OK || len(l) != n {
				t.Fatal(w.name, m, l, e)
			}
			for i := range l {
				if l[i] != w.says(heard, i) {
					t.Fatal(w.name, m, heard, l)
				}
			}
		}
	}
}

// K3: all wishes of one state. With it of Start and Final, it matters alone whether a letter leads on for each thing
// that the world can say.
func TestOneState(t *testing.T) {
	for n := range 64 {
		a := api.Auto{Letters: 4, States: 1}
		for l := range 4 {
			if n>>l&1 == 1 {
				a.Steps = append(a.Steps, api.Step{Letter: l})
			}
		}
		if n>>4&1 == 1 {
			a.Start = []int{0}
		}
		if n>>5&1 == 1 {
			a.Final = []int{0}
		}
		want := n>>4 == 3 && n&(1|4) != 0 && n&(2|8) != 0
		if m, can := try(t, a); can != want {
			t.Error(a, m, can)
		}
	}
}

// K3: wishes of which nothing matters but that some steps go on for ever, held against the sets of states that can
// come.
func TestAllFinal(t *testing.T) {
	x := dice(3)
	var many [2]int
	for range 4000 {
		a := x.wish(1+x.roll(4), 5+x.roll(40))
		a.Final = nil
		for s := range a.States {
			a.Final = append(a.Final, s)
		}
		want := goesOn(a)
		if m, can := try(t, a); can != want {
			t.Fatal(a, m, can)
		}
		many[bit(want)]++
	}
	if min(many[0], many[1]) < 1000 {
		t.Error("nearly all are alike:", many)
	}
}

func bit(is bool) int {
	if is {
		return 1
	}
	return 0
}

// goesOn takes away the sets from which the world can bring the answerer to none, until nothing changes.
func goesOn(a api.Auto) bool {
	good := slices.Repeat([]bool{true}, 16)
	good[0] = false
	for range 16 {
		for set := range good {
			for world := range 2 {
				good[set] = good[set] && (good[stepped(a, set, world)] || good[stepped(a, set, world+2)])
			}
		}
	}
	set := 0
	for _, s := range a.Start {
		set |= 1 << s
	}
	return good[set]
}

func stepped(a api.Auto, set, letter int) int {
	out := 0
	for _, x := range a.Steps {
		if x.Letter == letter && set>>x.From&1 == 1 {
			out |= 1 << x.To
		}
	}
	return out
}

// K3: wishes that know their way, held against what is come to by the words of G2: the greatest set of states from
// which the answerer can come to Final, by one turn or more, and be in the set again.
func TestKnowing(t *testing.T) {
	x := dice(4)
	var many [2]int
	for range 4000 {
		a := x.knowing(1+x.roll(4), x.roll(30))
		want := comesAgain(a)
		if m, can := try(t, a); can != want {
			t.Fatal(a, m, can)
		}
		many[bit(want)]++
	}
	if min(many[0], many[1]) < 1000 {
		t.Error("nearly all are alike:", many)
	}
}

// knowing has at most one step from a state by a letter; of each hundred so many lack.
func (x *dice) knowing(states, lack int) api.Auto {
	a := api.Auto{Letters: 4, States: states, Start: []int{x.roll(states)}, Final: x.some(states, 50)}
	for s := range states {
		for l := range 4 {
			if x.roll(100) >= lack {
				a.Steps = append(a.Steps, api.Step{From: s, Letter: l, To: x.roll(states)})
			}
		}
	}
	return a
}

func comesAgain(a api.Auto) bool {
	again := 1<<a.States - 1
	final := 0
	for _, s := range a.Final {
		final |= 1 << s
	}
	for range a.States {
		near := 0
		for range a.States {
			near |= brought(a, near|again&final)
		}
		again &= near
	}
	return again>>a.Start[0]&1 == 1
}

// brought answers the states from which the answerer can come to a set in one turn.
func brought(a api.Auto, goal int) int {
	out := 0
	for s := range a.States {
		all := true
		for world := range 2 {
			all = all && (stepped(a, 1<<s, world)|stepped(a, 1<<s, world+2))&goal != 0
		}
		if all {
			out |= 1 << s
		}
	}
	return out
}

// K3, K4: wishes that must guess.
func TestMany(t *testing.T) {
	x := dice(5)
	var many [2]int
	lassos := 0
	for i := range 4000 {
		a := x.wish(1+i%4, 10+x.roll(50))
		m, can := try(t, a)
		many[bit(can)]++
		lassos += hear(t, a, m, can, &x, 5)
	}
	if min(many[0], many[1]) < 1000 || lassos < 19000 {
		t.Error("nearly all are alike, or their lassos too long:", many, lassos)
	}
}

// K3, P1: the most steps that four states have, and wishes of great machines, and such as are nearly they.
func TestLarge(t *testing.T) {
	full := api.Auto{Letters: 4, States: 4, Start: []int{0, 1, 2, 3}, Final: []int{3}}
	for n := range 64 {
		full.Steps = append(full.Steps, api.Step{From: n / 16, Letter: n / 4 % 4, To: n % 4})
	}
	if _, can := try(t, full); !can {
		t.Error("all words are accepted")
	}
	great := 0
	for _, a := range large() {
		m, _ := try(t, a)
		great = max(great, len(m.Says))
		for i := range a.Steps {
			b := a
			b.Steps = slices.Concat(a.Steps[:i], a.Steps[i+1:])
			m, _ = try(t, b)
			great = max(great, len(m.Says))
		}
	}
	if great < 100 {
		t.Error("no great machine:", great)
	}
}

// K4: never one and the other: the judge lets no machine of the side pass that has none.
func TestNotBoth(t *testing.T) {
	x := dice(6)
	for range 1000 {
		a := x.wish(1+x.roll(4), 10+x.roll(50))
		_, can := try(t, a)
		for states := 1; states <= 6; states++ {
			if m := x.machine(can, states); judge(a, m, !can) == "" {
				t.Fatal(a, m, can)
			}
		}
	}
}

// K3: the judge lets no machine pass that says something else where there is no choice.
func TestJudge(t *testing.T) {
	for _, a := range []api.Auto{echo(), late(), oddly(), once()} {
		m, can := try(t, a)
		for s, says := range m.Says {
			m.Says[s][1] = 1 - says[1]
			if m.First {
				m.Says[s][0] = 1 - says[0]
			}
			if judge(a, m, can) == "" {
				t.Error(a, m)
			}
			m.Says[s] = says
		}
	}
}

// P3: what is handed in is left as it is, and what comes out shares memory with nothing.
func TestMemory(t *testing.T) {
	for _, fresh := range []func() api.Auto{late, early, both, oracle} {
		a := fresh()
		a.Start, a.Final, a.Steps = append(a.Start, 99)[:len(a.Start)], append(a.Final, 99)[:len(a.Final)], append(a.Steps, api.Step{From: 99})[:len(a.Steps)]
		m, can, _ := synth.Answer(a)
		kept, _, _ := synth.Answer(a)
		if !reflect.DeepEqual(m, kept) {
			t.Fatal(m, kept)
		}
		_, _ = append(m.Says, [2]int{7, 7}), append(m.Next, [2]int{8, 8})
		if !reflect.DeepEqual(m, kept) {
			t.Error("one list lies behind the other:", m)
		}
		clear(m.Says)
		if !reflect.DeepEqual(m.Next, kept.Next) {
			t.Error("lists share memory:", m)
		}
		if !reflect.DeepEqual(a, fresh()) || a.Start[:len(a.Start)+1][len(a.Start)] != 99 || a.Final[:len(a.Final)+1][len(a.Final)] != 99 || a.Steps[:len(a.Steps)+1][len(a.Steps)].From != 99 {
			t.Error("what is handed in is changed:", a)
		}
		if again, canAgain, _ := synth.Answer(a); !reflect.DeepEqual(again, kept) || canAgain != can {
			t.Error("Answer keeps what it answered:", again, kept)
		}
	}
	m, heard := parity(), []int{1, 1, 0, 99}[:3]
	l, _ := synth.Says(m, heard)
	again, _ := synth.Says(m, heard)
	l[0], l[1], l[2] = 7, 8, 9
	if !slices.Equal(again, []int{1, 0, 0}) || !slices.Equal(heard[:4], []int{1, 1, 0, 99}) || !reflect.DeepEqual(m, parity()) {
		t.Error("Says keeps or changes something:", again, heard[:4], m)
	}
}

package logic_test

import (
	"reflect"
	"slices"
	"strings"
	"testing"

	"evermore/api"
	"evermore/det"
	"evermore/logic"
	"evermore/regular"
)

func again(s string, n int) string { return strings.Repeat(s, n) }

// E1, E2: each kind of fault, where it stands, and which of several comes first.
func TestCheckByHand(t *testing.T) {
	row := "Ex(ax" + again("|ax", 14) // 30 nodes
	for _, x := range []struct {
		text string
		code api.Errno
		at   int
	}{
		{"Exax", api.OK, 0},
		{"Exbx", api.OK, 0},
		{"Axx<x", api.OK, 0},
		{"AyEzy=z", api.OK, 0},
		{"AyEzz~y", api.OK, 0},
		{"EZAyZy", api.OK, 0},
		{"EXEYEx(Xx&Yx)", api.OK, 0},
		{"ExEXAxXx", api.OK, 0},
		{"(((Exax)))", api.OK, 0},
		{"!!!Exax", api.OK, 0},
		{"!Exax&!(Exbx|Axax)|Exx=x", api.OK, 0},
		{"ExExax", api.OK, 0},
		{"Ex(ax&Exbx)", api.OK, 0},
		{"Ex(Exbx&ax)", api.OK, 0},

		{"", api.ErrSyntax, 0},
		{" Exax", api.ErrSyntax, 0},
		{"Exax ", api.ErrSyntax, 4},
		{"Exax\n", api.ErrSyntax, 4},
		{"Ex\x00", api.ErrSyntax, 2},
		{"\x00", api.ErrSyntax, 0},
		{"\xff", api.ErrSyntax, 0},
		{"E", api.ErrSyntax, 1},
		{"A", api.ErrSyntax, 1},
		{"Ex", api.ErrSyntax, 2},
		{"EX", api.ErrSyntax, 2},
		{"Ea", api.ErrSyntax, 1},
		{"Ew", api.ErrSyntax, 1},
		{"EW", api.ErrSyntax, 1},
		{"E(", api.ErrSyntax, 1},
		{"Exa", api.ErrSyntax, 3},
		{"ExaX", api.ErrSyntax, 3},
		{"Exaa", api.ErrSyntax, 3},
		{"Excx", api.ErrSyntax, 2},
		{"Exx", api.ErrSyntax, 3},
		{"Exx>x", api.ErrSyntax, 3},
		{"Exxx", api.ErrSyntax, 3},
		{"ExXx", api.ErrName, 2},
		{"EXAxX", api.ErrSyntax, 5},
		{"EXAxXX", api.ErrSyntax, 5},
		{"EXAxX<x", api.ErrSyntax, 5},
		{"EXAxx<X", api.ErrSyntax, 6},
		{"Exx<a", api.ErrSyntax, 4},
		{"Exax|", api.ErrSyntax, 5},
		{"Exax&", api.ErrSyntax, 5},
		{"Exax||Exax", api.ErrSyntax, 5},
		{"|Exax", api.ErrSyntax, 0},
		{"&", api.ErrSyntax, 0},
		{"!", api.ErrSyntax, 1},
		{"!)", api.ErrSyntax, 1},
		{"()", api.ErrSyntax, 1},
		{"(", api.ErrSyntax, 1},
		{")", api.ErrSyntax, 0},
		{"(Exax", api.ErrSyntax, 5},
		{"Exax)", api.ErrSyntax, 4},
		{"(Exax))", api.ErrSyntax, 6},
		{"ExaxExax", api.ErrSyntax, 4},
		{"Exax!Exax", api.ErrSyntax, 4},

		{"ax", api.ErrName, 1},
		{"bz", api.ErrName, 1},
		{"x", api.ErrName, 0},
		{"X", api.ErrName, 0},
		{"x<y", api.ErrName, 0},
		{"x?", api.ErrName, 0},
		{"Exay", api.ErrName, 3},
		{"Exx<y", api.ErrName, 4},
		{"Exy<x", api.ErrName, 2},
		{"EXXx", api.ErrName, 3},
		{"EXax", api.ErrName, 3},
		{"ExEYXx", api.ErrName, 4},
		{"Exax&bx", api.ErrName, 6},
		{"(Exax)&bx", api.ErrName, 8},
		{"Ex(ax&Eyby)&Exby", api.ErrName, 15},
		{"Ex(Eyby&ay)", api.ErrName, 9},
		{"Exay)", api.ErrName, 3},

		{"ExEyEzax", api.OK, 0},
		{"ExEyEzExax", api.ErrFull, 6},
		{"AXAYAZAxXx", api.ErrFull, 6},
		{"ExEyEzE", api.ErrFull, 6},
		{"ExEyEzA?", api.ErrFull, 6},
		{"(ExEyEzax&ExEyEzax)|!ExEyAzbz", api.OK, 0},
		{"Ex(EyEzax&Ey(Ezaz|EzExaz))", api.ErrFull, 20},
		{"ExEyEz(az&!(ay|Exax))", api.ErrFull, 15},

		{again("(", 40) + "Exax" + again(")", 40), api.OK, 0},
		{again("(", 41) + "Exax" + again(")", 41), api.ErrFull, 40},
		{again("(", 41), api.ErrFull, 40},
		{again("(", 40), api.ErrSyntax, 40},
		{again("(", 40) + "Ex(ax", api.ErrFull, 42},
		{"Ex(" + again("(", 39) + "ax" + again(")", 39) + "|(" + again("(", 38) + "ax" + again(")", 40), api.OK, 0},
		{"Ex(" + again("(", 39) + "ax" + again(")", 39) + "|(" + again("(", 39) + "ax", api.ErrFull, 3 + 39 + 2 + 39 + 1 + 39},
		{"Ex(" + again("(ax)|", 14) + "(ax))", api.OK, 0},

		{"Ex" + again("!", 28) + "ax", api.OK, 0},
		{"Ex" + again("!", 29) + "ax", api.ErrFull, 31},
		{"Ex" + again("!", 29), api.ErrSyntax, 31},
		{"Ex" + again("!", 29) + "ay", api.ErrFull, 31},
		{"Ex" + again("!", 29) + "a", api.ErrFull, 31},
		{"Ex" + again("!", 29) + "x<x", api.ErrFull, 31},
		{"Ex" + again("!", 29) + "x", api.ErrFull, 31},
		{"Ex" + again("!", 29) + "y<x", api.ErrName, 31},
		{"EX" + again("!", 29) + "Xx", api.ErrFull, 31},
		{"EX" + again("!", 29) + "Yx", api.ErrName, 31},
		{"Ex" + again("!", 29) + "c", api.ErrSyntax, 31},
		{"Ex" + again("!", 29) + "!", api.ErrFull, 31},
		{"Ex" + again("!", 29) + "Eyax", api.ErrFull, 31},
		{"Ex" + again("!", 29) + "Ayax", api.ErrFull, 31},
		{"Ex" + again("!", 29) + "(", api.ErrSyntax, 32},
		{again("!", 28) + "Exax", api.OK, 0},
		{again("!", 29) + "Exax", api.ErrFull, 31},
		{again("!", 30) + "Exax", api.ErrFull, 30},
		{row + ")", api.OK, 0},
		{row + "|ax)", api.ErrFull, len(row)},
		{row + "&ax)", api.ErrFull, len(row)},
		{row + "|", api.ErrFull, len(row)},
		{row + ")&", api.ErrFull, len(row) + 1},
		{row + "))", api.ErrSyntax, len(row) + 1},

		{again("(", 4000), api.ErrFull, 40},
		{again("(", 4001), api.ErrSize, 0},
		{"Exax" + again(" ", 3996), api.ErrSyntax, 4},
		{"Exax" + again(" ", 3997), api.ErrSize, 0},
		{again("!", 1<<20), api.ErrSize, 0},
	} {
		if f := logic.Check(x.text); f != (api.Fault{Code: x.code, At: x.at}) {
			t.Errorf("%q: %v, not %v at %d", x.text, f, x.code, x.at)
		}
	}
}

// faultOf goes byte by byte, and keeps what is open: brackets, variables and !, each as its byte.
func faultOf(text string) api.Fault {
	if len(text) > 4000 {
		return api.Fault{Code: api.ErrSize}
	}
	const (
		aPart = iota
		aVariable
		aPlace
		aRelation
		anEnd
	)
	var open []byte
	nodes, want := 0, aPart
	isIn := func(set string, b byte) bool { return strings.IndexByte(set, b) >= 0 }
	for at := 0; ; at++ {
		fault := func(e api.Errno) api.Fault { return api.Fault{Code: e, At: at} }
		for want == anEnd && len(open) > 0 && open[len(open)-1] != '(' {
			open = open[:len(open)-1]
		}
		if at == len(text) && want == anEnd && len(open) == 0 {
			return api.Fault{}
		}
		if at == len(text) {
			return fault(api.ErrSyntax)
		}
		b := text[at]
		allowed := [...]string{"!(EAabxyzXYZ", "xyzXYZ", "xyz", "<=~", "|&)"}[want]
		if !isIn(allowed, b) || b == ')' && len(open) == 0 {
			return fault(api.ErrSyntax)
		}
		if want != aVariable && isIn("xyzXYZ", b) && !isIn(string(open), b) {
			return fault(api.ErrName)
		}
		if (want == aPart || want == anEnd) && !isIn("()", b) {
			nodes++
		}
		vars := 0
		for _, o := range open {
			if isIn("xyzXYZ", o) {
				vars++
			}
		}
		nest := strings.Count(string(open), "(")
		if nodes > 30 || isIn("EA", b) && vars == 3 || b == '(' && nest == 40 {
			return fault(api.ErrFull)
		}
		switch {
		case want == aVariable:
			open, want = append(open, b), aPart
		case want == aPlace:
			want = anEnd
		case want == aRelation:
			want = aPlace
		case isIn("!(", b):
			open = append(open, b)
		case isIn("EA", b):
			want = aVariable
		case isIn("abXYZ", b):
			want = aPlace
		case isIn("xyz", b):
			want = aRelation
		case isIn("|&", b):
			want = aPart
		case b == ')':
			open = open[:len(open)-1]
		}
	}
}

// E1, E2: all short texts that go on where nothing is wrong yet, by all bytes that can stand somewhere, and some
// that cannot.
func TestCheckShort(t *testing.T) {
	row, right := []string{""}, 0
	for range 9 {
		var longer []string
		for _, s := range row {
			for _, b := range []byte("|&!()EAabcxyX<~ ") {
				text := s + string(b)
				f := logic.Check(text)
				if f != faultOf(text) {
					t.Fatalf("%q: %v, not %v", text, f, faultOf(text))
				}
				if f.Code == api.OK {
					right++
				}
				if f.Code == api.OK || f.At == len(text) {
					longer = append(longer, text)
				}
			}
		}
		if row = longer; len(row) > 100000 {
			break
		}
	}
	if right < 500 {
		t.Error(right)
	}
}

// E1, E2: formulas, and what is next to formulas.
func TestCheckChanged(t *testing.T) {
	x := dice(1)
	codes := map[api.Errno]int{}
	for range 20000 {
		text := []byte(x.form(40, "").text())
		for range x.roll(3) {
			switch at := x.roll(len(text)); x.roll(3) {
			case 0:
				text[at] = x.of("|&!()EAabxyzXYZ<=~ ")
			case 1:
				text = slices.Insert(text, at, x.of("|&!()EAabxyzXYZ<=~ "))
			default:
				text = slices.Insert(text, at, []byte(again(string(x.of("!(")), 20+x.roll(30)))...)
			}
		}
		f := logic.Check(string(text))
		if f != faultOf(string(text)) {
			t.Fatalf("%q: %v, not %v", text, f, faultOf(string(text)))
		}
		codes[f.Code]++
	}
	for _, e := range []api.Errno{api.OK, api.ErrSyntax, api.ErrName, api.ErrFull} {
		if codes[e] < 100 {
			t.Error(codes)
		}
	}
}

// E3, E4: formulas held against what they say, of all words of at most six letters; the automata are least.
func TestFormulas(t *testing.T) {
	x := dice(2)
	full, most := 0, 0
	for i := range 900 {
		f := x.form(3+i%24, "")
		text := f.text()
		if c := logic.Check(text); c.Code != api.OK {
			t.Fatal(text, c)
		}
		d, e := logic.Det(text)
		if e == api.ErrFull {
			full++
		} else if least, _ := det.Least(d); e != api.OK || d.Letters != 2 || !reflect.DeepEqual(least, d) {
			t.Fatalf("%s: %v, %v", text, d, e)
		}
		most = max(most, len(d.Next))
		words(2, 6-2*min(i%4, 1), func(w []int) {
			says := f.says(w, nil)
			if is, e := logic.Holds(text, w); is != says || e != api.OK {
				t.Fatalf("%s of %v: %v, %v", text, w, is, e)
			}
			if e != api.OK {
				return
			}
			if is, _ := det.Accepts(d, w); is != says {
				t.Fatalf("%s: Det of %v: %v", text, w, is)
			}
		})
	}
	if full > 90 || most < 5 {
		t.Error(full, most)
	}
}

// E4, E5: formulas and texts that tell the same words have the same automaton.
func TestDetByTexts(t *testing.T) {
	even := "EX(Ex(Xx&!Eyy<x)&Ex(!Xx&!Eyx<y)&AxAy(!x~y|(Xx&!Xy)|(!Xx&Xy)))"
	for _, x := range []struct{ formula, text string }{
		{"Ex(ax&!Eyx<y)", "(a+b)*a"},
		{even, "(a+b)(a+b)((a+b)(a+b))*"},
		{"Exax", "b*a(a+b)*"},
		{"Exbx", "a*b(a+b)*"},
		{"Axax", "a*"},
		{"Axbx", "b*"},
		{"Exx=x", "(a+b)(a+b)*"},
		{"Exx<x", "0"},
		{"Exx~x", "0"},
		{"Ex(ax&bx)", "0"},
		{"Ax(ax|bx)", "(a+b)*"},
		{"AXAx(Xx|!Xx)", "(a+b)*"},
		{"EXAxXx", "(a+b)*"},
		{"EXExXx", "(a+b)(a+b)*"},
		{"AXExXx", "0"},
		{"AXAxXx", "1"},
		{"!Exx=x", "1"},
		{"ExEyx<y", "(a+b)(a+b)(a+b)*"},
		{"ExEyEz(x<y&y<z)", "(a+b)(a+b)(a+b)(a+b)*"},
		{"ExEyEz(x~y&y~z&ax&by&az)", "(a+b)*aba(a+b)*"},
		{"AxAy(!x~y|ax&by|bx&ay)", "(1+b)(ab)*(1+a)"},
		{"ExEy(x~y&ax&by)", "(a+b)*ab(a+b)*"},
		{"AxAy(!(ax&by)|x<y)", "a*b*"},
		{"AxAy(!ax|!by|x<y)", "a*b*"},
		{"ExAy(x=y|ay)&Exbx", "a*ba*"},
		{"Ex(ax&Ey(x<y&by&Ax(!x<y|ax)))", "aa*b(a+b)*"},
		{"Exax&Exbx", "aa*b(a+b)*+bb*a(a+b)*"},
		{"Exax|Exbx&Exx<x", "b*a(a+b)*"},
		{"(Exax|Exbx)&Exx<x", "0"},
		{"!Exax|Exax", "(a+b)*"},
		{"!(Exax|Exax)", "b*"},
		{"Exax&!Exbx", "aa*"},
		{"Ex!ax", "a*b(a+b)*"},
	} {
		want, e := regular.Det(2, x.text)
		if e != api.OK {
			t.Fatal(x.text, e)
		}
		d, e := logic.Det(x.formula)
		if !reflect.DeepEqual(d, want) || e != api.OK {
			t.Errorf("%s: %v, %v, not %v", x.formula, d, e, want)
		}
	}
}

// E3: the edges of words, and what is wrong, in its order.
func TestHoldsByHand(t *testing.T) {
	six := []int{0, 1, 0, 1, 0, 1}
	for _, x := range []struct {
		text string
		w    []int
		is   bool
		e    api.Errno
	}{
		{"Exax", nil, false, api.OK},
		{"Axax", nil, true, api.OK},
		{"EXAxXx", nil, true, api.OK},
		{"AXExXx", nil, false, api.OK},
		{"AXAxXx", []int{}, true, api.OK},
		{"Exbx", six, true, api.OK},
		{"AxAy(!x~y|(ax&by)|(bx&ay))", six, true, api.OK},
		{"AxEyx~y", six, false, api.OK},
		{"AxEy(x~y|y~x)", six, true, api.OK},
		{"ExExax", []int{1, 0}, true, api.OK},
		{"Ex(bx&Ex(ax&Ax!x<x))", []int{1, 0}, true, api.OK},
		{"Ex(bx&Ex(ax&Ax!x<x)&bx)", []int{1, 0}, true, api.OK},
		{"Ex(bx&Ex(ax&Ax!x<x)&ax)", []int{1, 0}, false, api.OK},
		{"Exax", make([]int, 7), false, api.ErrSize},
		{"Exax", []int{2, 2, 2, 2, 2, 2, 2}, false, api.ErrSize},
		{"Exax", make([]int, 61), false, api.ErrSize},
		{"Exax", []int{0, 2}, false, api.ErrRange},
		{"Exax", []int{-1}, false, api.ErrRange},
		{"Exbx", []int{1, 1, 1, 1, 1, 1 << 62}, false, api.ErrRange},
		{"Exax ", []int{0, 2}, false, api.ErrSyntax},
		{"", make([]int, 7), false, api.ErrSyntax},
		{"ax", []int{0}, false, api.ErrSyntax},
		{"ExEyEzExax", []int{0}, false, api.ErrSyntax},
		{again("(", 41), []int{0}, false, api.ErrSyntax},
		{again("!", 31), []int{0}, false, api.ErrSyntax},
		{again("!", 4001), []int{0}, false, api.ErrSyntax},
	} {
		if is, e := logic.Holds(x.text, x.w); is != x.is || e != x.e {
			t.Errorf("%s of %v: %v, %v, not %v, %v", x.text, x.w, is, e, x.is, x.e)
		}
	}
}

// E2: whatever is wrong with a text, Det says the same.
func TestDetRefusesTexts(t *testing.T) {
	for _, text := range []string{"", "ax", "Exax ", "ExEyEzExax", again("(", 41), again("!", 31), again("!", 4001), "Ex" + again("!", 29) + "ax"} {
		if d, e := logic.Det(text); e != api.ErrSyntax || !reflect.ValueOf(d).IsZero() {
			t.Errorf("%.40q: %v, %v", text, d, e)
		}
	}
}

// E4: tables, held against what the formulas say: some have as many sets as may be, some have one more.
func TestTables(t *testing.T) {
	less, next, same := func(v, u byte) *form { return pair(v, '<', u) }, func(v, u byte) *form { return pair(v, '~', u) }, func(v, u byte) *form { return pair(v, '=', u) }
	for _, x := range []struct {
		f    *form
		many int
	}{
		{some('x', both(zero('x'), one('x'))), 1},
		{all('x', both(zero('x'), one('x'))), 3},
		{some('x', zero('x')), 4},
		{some('X', some('x', within('X', 'x'))), 4},
		{some('x', some('y', some('z', zero('z')))), 14},
		{some('x', some('z', either(one('z'), some('y', both(one('y'), next('x', 'y'))), next('z', 'x')))), 16},
		{some('x', all('z', all('y', both(not(less('x', 'z')), one('y'))))), 16},
		{some('x', some('z', all('y', both(one('x'), less('x', 'z'), one('y'))))), 17},
		{some('X', some('x', all('z', either(one('z'), next('x', 'z'), same('z', 'x'), within('X', 'x'))))), 17},
		{some('x', both(some('z', both(zero('z'), not(next('x', 'z')), less('x', 'z'))), some('z', both(one('z'), next('z', 'x'))))), 17},
		{some('x', some('y', some('z', both(not(next('y', 'z')), one('z'))))), 18},
		{all('x', all('y', some('z', either(next('y', 'x'), next('x', 'z'), zero('z'))))), 23},
	} {
		want := api.OK
		if x.many > api.MaxTable {
			want = api.ErrFull
		}
		text := x.f.text()
		if many := slices.Max(x.f.tables(nil)); many != x.many {
			t.Errorf("%s: %d sets, not %d", text, many, x.many)
		}
		if d, e := logic.Det(text); e != want || e != api.OK && !reflect.ValueOf(d).IsZero() {
			t.Errorf("%s: %v, not %v", text, e, want)
		}
		// A table that is too large is so wherever its part stands, whatever else is said.
		for _, around := range []string{"!" + text, "Exx<x&" + text, text + "&Exx<x", "Exx=x|" + text, text + "|!Exx<x"} {
			if _, e := logic.Det(around); e != want {
				t.Errorf("%s: %v, not %v", around, e, want)
			}
		}
	}
}

// E4: any tables, of up to three variables within one another, also of one name.
func TestTablesOfAny(t *testing.T) {
	x := dice(3)
	codes := map[api.Errno]int{}
	for i := range 60 {
		around := []string{"xy", "xyz", "xyx", "Xxy"}[i%4]
		f := &form{op: x.of("|&")}
		for range 3 {
			f.of = append(f.of, x.form(2, around))
		}
		for _, v := range slices.Backward([]byte(around)) {
			f = &form{op: x.of("EA"), v: v, of: []*form{f}}
		}
		want := api.OK
		tables := f.tables(nil)
		if slices.Max(tables) > api.MaxTable {
			want = api.ErrFull
		}
		if _, e := logic.Det(f.text()); e != want {
			t.Errorf("%s: %v, not %v: %v", f.text(), e, want, tables)
		}
		codes[want]++
	}
	if codes[api.OK] < 10 || codes[api.ErrFull] < 5 {
		t.Error(codes)
	}
}

// P3: words are left as they are, and rows of an answer are apart.
func TestMemory(t *testing.T) {
	w := []int{0, 1, 7}[:2]
	if is, e := logic.Holds("Exbx", w); !is || e != api.OK || !slices.Equal(w[:3], []int{0, 1, 7}) {
		t.Error(is, e, w[:3])
	}
	d, _ := logic.Det("ExEyEz(x~y&y~z&ax&by&az)")
	before, _ := logic.Det("ExEyEz(x~y&y~z&ax&by&az)")
	for s := range d.Next {
		d.Next[s] = append(d.Next[s], -7)
		for l := range d.Next[s] {
			d.Next[s][l] = -s
		}
		d.Mark[s] = 5
	}
	for s := range d.Next {
		if !slices.Equal(d.Next[s], []int{-s, -s, -s}) {
			t.Error("rows share memory:", d)
		}
	}
	if after, _ := logic.Det("ExEyEz(x~y&y~z&ax&by&az)"); !reflect.DeepEqual(after, before) {
		t.Error(after)
	}
}

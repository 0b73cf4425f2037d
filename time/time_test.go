package time_test

import (
	"reflect"
	"slices"
	"strings"
	"testing"

	"evermore/api"
	"evermore/buchi"
	"evermore/time"
)

func again(s string, n int) string { return strings.Repeat(s, n) }

// H1, H2: each kind of fault, where it stands, and which of several comes first.
func TestCheckByHand(t *testing.T) {
	row := "p" + again("|q", 14) // 29 nodes
	for _, x := range []struct {
		text string
		code api.Errno
		at   int
	}{
		{"p", api.OK, 0},
		{"q", api.OK, 0},
		{"0", api.OK, 0},
		{"1", api.OK, 0},
		{"!p", api.OK, 0},
		{"!!!p", api.OK, 0},
		{"Xp", api.OK, 0},
		{"XFGp", api.OK, 0},
		{"X!F!Gq", api.OK, 0},
		{"pUq", api.OK, 0},
		{"pRq", api.OK, 0},
		{"pUqRpUq", api.OK, 0},
		{"!pUXq", api.OK, 0},
		{"p&q|p&q", api.OK, 0},
		{"pUq&qUp|1R0", api.OK, 0},
		{"(((p)))", api.OK, 0},
		{"(pUq)Up", api.OK, 0},
		{"!(p|q)&X(q)", api.OK, 0},
		{"GFp", api.OK, 0},
		{"G(!p|Fq)", api.OK, 0},

		{"", api.ErrSyntax, 0},
		{" p", api.ErrSyntax, 0},
		{"p ", api.ErrSyntax, 1},
		{"p q", api.ErrSyntax, 1},
		{"p\n", api.ErrSyntax, 1},
		{"\x00", api.ErrSyntax, 0},
		{"p\x00", api.ErrSyntax, 1},
		{"(p\x00", api.ErrSyntax, 2},
		{"\xff", api.ErrSyntax, 0},
		{"P", api.ErrSyntax, 0},
		{"r", api.ErrSyntax, 0},
		{"2", api.ErrSyntax, 0},
		{"x", api.ErrSyntax, 0},
		{"pp", api.ErrSyntax, 1},
		{"pq", api.ErrSyntax, 1},
		{"01", api.ErrSyntax, 1},
		{"p!q", api.ErrSyntax, 1},
		{"pXq", api.ErrSyntax, 1},
		{"pFq", api.ErrSyntax, 1},
		{"pGq", api.ErrSyntax, 1},
		{"p(q)", api.ErrSyntax, 1},
		{"(p)q", api.ErrSyntax, 3},
		{"(p)(q)", api.ErrSyntax, 3},
		{"!", api.ErrSyntax, 1},
		{"X", api.ErrSyntax, 1},
		{"F", api.ErrSyntax, 1},
		{"G", api.ErrSyntax, 1},
		{"pU", api.ErrSyntax, 2},
		{"pR", api.ErrSyntax, 2},
		{"p&", api.ErrSyntax, 2},
		{"p|", api.ErrSyntax, 2},
		{"U", api.ErrSyntax, 0},
		{"Rp", api.ErrSyntax, 0},
		{"&p", api.ErrSyntax, 0},
		{"|p", api.ErrSyntax, 0},
		{"!U", api.ErrSyntax, 1},
		{"XUp", api.ErrSyntax, 1},
		{"pUUq", api.ErrSyntax, 2},
		{"pURq", api.ErrSyntax, 2},
		{"pU&q", api.ErrSyntax, 2},
		{"p&&q", api.ErrSyntax, 2},
		{"p||q", api.ErrSyntax, 2},
		{"p|&q", api.ErrSyntax, 2},
		{"(", api.ErrSyntax, 1},
		{")", api.ErrSyntax, 0},
		{"()", api.ErrSyntax, 1},
		{"(p", api.ErrSyntax, 2},
		{"p)", api.ErrSyntax, 1},
		{"(p))", api.ErrSyntax, 3},
		{"((p)", api.ErrSyntax, 4},
		{"(p|)", api.ErrSyntax, 3},
		{"(pU)q", api.ErrSyntax, 3},

		{"XXXXXp", api.OK, 0},
		{"XXXXXXp", api.ErrFull, 5},
		{"XXXXX", api.ErrSyntax, 5},
		{"XXXXXX", api.ErrFull, 5},
		{"XXXXXU", api.ErrSyntax, 5},
		{"FFFFFFp", api.ErrFull, 5},
		{"GGGGGGp", api.ErrFull, 5},
		{"XFGXF!(p&q)", api.OK, 0},
		{"XFGXF!(p&Xq)", api.ErrFull, 9},
		{"XFGpUqRp", api.OK, 0},
		{"XFGpUqRpUq", api.ErrFull, 8},
		{"XFGpUqRpRq", api.ErrFull, 8},
		{"XFGpUqRpFq", api.ErrSyntax, 8},
		{"XFGpUqRp&Fq", api.ErrFull, 9},
		{"XFGpUqRp|!Gq", api.ErrFull, 10},
		{"pUqUpUqUpUq", api.OK, 0},
		{"pUqUpUqUpUqUp", api.ErrFull, 11},
		{"pUqUpUqUpUqU", api.ErrFull, 11},
		{"pRqRpRqRpRqRp", api.ErrFull, 11},
		{"Xp&Xp&Xp&Xp&Xp", api.OK, 0},
		{"Xp&Xp&Xp&Xp&Xp&Xp", api.ErrFull, 15},
		{"(Xp)|(Fp)|(Gp)|(pUq)|(pRq)", api.OK, 0},
		{"(Xp)|(Fp)|(Gp)|(pUq)|(pRq)Uq", api.ErrFull, 26},

		{again("!", 29) + "p", api.OK, 0},
		{again("!", 30) + "p", api.ErrFull, 30},
		{again("!", 30) + "q", api.ErrFull, 30},
		{again("!", 30) + "0", api.ErrFull, 30},
		{again("!", 30) + "1", api.ErrFull, 30},
		{again("!", 30) + "!", api.ErrFull, 30},
		{again("!", 30) + "X", api.ErrFull, 30},
		{again("!", 30) + "F", api.ErrFull, 30},
		{again("!", 30) + "G", api.ErrFull, 30},
		{again("!", 30) + "U", api.ErrSyntax, 30},
		{again("!", 30) + "&", api.ErrSyntax, 30},
		{again("!", 30) + "a", api.ErrSyntax, 30},
		{again("!", 30), api.ErrSyntax, 30},
		{again("!", 30) + "(", api.ErrSyntax, 31},
		{again("!", 30) + "(p", api.ErrFull, 31},
		{again("!", 29) + "p&", api.ErrFull, 30},
		{again("!", 29) + "p|", api.ErrFull, 30},
		{again("!", 29) + "pU", api.ErrFull, 30},
		{again("!", 29) + "pR", api.ErrFull, 30},
		{again("!", 29) + "p)", api.ErrSyntax, 30},
		{again("!", 29) + "p!", api.ErrSyntax, 30},
		{row, api.OK, 0},
		{"!" + row, api.OK, 0},
		{row + "|q", api.ErrFull, len(row) + 1},
		{row + "&q", api.ErrFull, len(row) + 1},
		{row + "Uq", api.ErrFull, len(row) + 1},
		{row + "U", api.ErrSyntax, len(row) + 1},
		{"!" + row + "|q", api.ErrFull, len(row) + 1},

		{again("(", 40) + "p" + again(")", 40), api.OK, 0},
		{again("(", 41) + "p" + again(")", 41), api.ErrFull, 40},
		{again("(", 41), api.ErrFull, 40},
		{again("(", 40), api.ErrSyntax, 40},
		{again("(", 40) + "p" + again(")", 39), api.ErrSyntax, 80},
		{again("(", 40) + "p" + again(")", 41), api.ErrSyntax, 81},
		{again("(", 40) + "p|(", api.ErrFull, 42},
		{again("(", 40) + "p(", api.ErrSyntax, 41},
		{again("(", 40) + "p" + again(")", 40) + "U" + again("(", 40) + "q" + again(")", 40), api.OK, 0},
		{again("(", 40) + "p" + again(")", 40) + "U" + again("(", 41) + "q", api.ErrFull, 122},
		{"(" + again("(p)|", 14) + "(p))", api.OK, 0},

		{again("(", 4000), api.ErrFull, 40},
		{again("(", 4001), api.ErrSize, 0},
		{"p" + again(" ", 3999), api.ErrSyntax, 1},
		{"p" + again(" ", 4000), api.ErrSize, 0},
		{again("!", 1<<20), api.ErrSize, 0},
	} {
		if f := time.Check(x.text); f != (api.Fault{Code: x.code, At: x.at}) {
			t.Errorf("%q: %v, not %v at %d", x.text, f, x.code, x.at)
		}
	}
}

// faultOf goes byte by byte: either something is to begin there, or something has just ended.
func faultOf(text string) api.Fault {
	if len(text) > 4000 {
		return api.Fault{Code: api.ErrSize}
	}
	open, nodes, times, ended := 0, 0, 0, false
	for at := range len(text) {
		b := text[at]
		may := "!XFG(pq01"
		if ended {
			may = "UR&|)"
		}
		if strings.IndexByte(may, b) < 0 || b == ')' && open == 0 {
			return api.Fault{Code: api.ErrSyntax, At: at}
		}
		if b == '(' {
			open++
		} else if b == ')' {
			open--
		} else {
			nodes++
		}
		if strings.IndexByte("XFGUR", b) >= 0 {
			times++
		}
		if open > 40 || nodes > 30 || times > 5 {
			return api.Fault{Code: api.ErrFull, At: at}
		}
		ended = strings.IndexByte("pq01)", b) >= 0
	}
	if !ended || open > 0 {
		return api.Fault{Code: api.ErrSyntax, At: len(text)}
	}
	return api.Fault{}
}

func checkFault(t *testing.T, text string) {
	t.Helper()
	want := faultOf(text)
	if f := time.Check(text); f != want {
		t.Fatalf("%q: %v, not %v", text, f, want)
	}
	e := api.OK
	if want.Code != api.OK {
		e = api.ErrSyntax
	}
	if is, f := time.Holds(text, api.Lasso{Loop: []int{3}}); f != e || e != api.OK && is {
		t.Fatalf("%q: Holds: %v, %v, not %v", text, is, f, e)
	}
	if a, f := time.Auto(text); f != e || e != api.OK && !reflect.DeepEqual(a, api.Auto{}) {
		t.Fatalf("%q: Auto: %v, %v, not %v", text, a, f, e)
	}
}

// H2: all texts of up to five bytes, one of each kind.
func TestCheckOfShort(t *testing.T) {
	row := []string{""}
	for range 5 {
		var longer []string
		for _, text := range row {
			for _, b := range []byte("p0!XU&|()\x00") {
				longer = append(longer, text+string(rune(b)))
			}
		}
		for _, text := range longer {
			checkFault(t, text)
		}
		row = longer
	}
}

// H2: formulas with a byte taken, put, or changed, about as large as may be and larger.
func TestCheckOfSpoilt(t *testing.T) {
	x := dice(1)
	for range 6000 {
		times := x.roll(8)
		text := x.shape(1+x.roll(40), &times).text(0)
		for range x.roll(3) {
			at, b := x.roll(len(text)), string(rune(x.pick("!XFGUR&|()pq01 a")))
			switch x.roll(3) {
			case 0:
				text = text[:at] + text[at+1:]
			case 1:
				text = text[:at] + b + text[at:]
			case 2:
				text = text[:at] + b + text[at+1:]
			}
			if text == "" {
				break
			}
		}
		checkFault(t, text)
	}
}

// a lasso by digits.
func lasso(head, loop string) api.Lasso {
	digits := func(s string) []int {
		var w []int
		for _, b := range []byte(s) {
			w = append(w, int(b-'0'))
		}
		return w
	}
	return api.Lasso{Head: digits(head), Loop: digits(loop)}
}

// agree holds Holds, and what Auto accepts, against what is so.
func agree(t *testing.T, text string, l api.Lasso, want bool) {
	t.Helper()
	if is, e := time.Holds(text, l); is != want || e != api.OK {
		t.Fatalf("%q: Holds of %v: %v, %v, not %v", text, l, is, e, want)
	}
	a, e := time.Auto(text)
	if e != api.OK {
		t.Fatalf("%q: Auto: %v", text, e)
	}
	if is, e := buchi.Accepts(a, l); is != want || e != api.OK {
		t.Fatalf("%q: accepts %v: %v, %v, not %v", text, l, is, e, want)
	}
}

// H1, H3, H4.
func TestHoldsByHand(t *testing.T) {
	for _, x := range []struct {
		text, head, loop string
		want             bool
	}{
		{"0", "", "3", false},
		{"1", "", "0", true},
		{"p", "0", "3", false},
		{"p", "1", "0", true},
		{"p", "2", "3", false},
		{"p", "3", "0", true},
		{"q", "0", "3", false},
		{"q", "1", "3", false},
		{"q", "2", "0", true},
		{"q", "3", "0", true},
		{"p", "", "10", true},
		{"!p", "", "2", true},
		{"p&q", "", "3", true},
		{"p&q", "", "1", false},
		{"p|q", "", "2", true},
		{"p|q", "", "0", false},
		{"1|0&0", "", "0", true},
		{"0&0|1", "", "0", true},
		{"0&(0|1)", "", "0", false},
		{"Xp", "0", "1", true},
		{"Xp", "1", "0", false},
		{"Xp", "", "01", true},
		{"Xp", "", "10", false},
		{"XXp", "", "10", true},
		{"XXXp", "00", "010", true},
		{"XXXp", "00", "100", false},
		{"XXXp", "00", "01", true},
		{"XXXXXp", "", "0001", false},
		{"XXXXXp", "", "01", true},
		{"Fp", "000", "0", false},
		{"Fp", "001", "0", true},
		{"Fp", "1", "0", true},
		{"Fp", "", "001", true},
		{"Gp", "", "13", true},
		{"Gp", "1", "10", false},
		{"Gp", "0", "1", false},
		{"pUq", "", "1", false},
		{"pUq", "", "2", true},
		{"pUq", "11", "20", true},
		{"pUq", "101", "2", false},
		{"pUq", "1", "12", true},
		{"pUq", "", "112", true},
		{"pUq", "1", "102", false},
		{"qRp", "", "1", true},
		{"qRp", "11", "30", true},
		{"qRp", "11", "20", false},
		{"qRp", "3", "0", true},
		{"qRp", "2", "1", false},
		{"GFp", "0", "1", true},
		{"GFp", "1", "0", false},
		{"GFp", "", "0001", true},
		{"FGp", "", "01", false},
		{"FGp", "00", "1", true},
		{"FGp", "01", "13", true},
		{"G(!p|Fq)", "1", "0", false},
		{"G(!p|Fq)", "12", "0", true},
		{"G(!p|Fq)", "12", "01", false},
		{"G(!p|Fq)", "", "3", true},
		{"G(!p|Fq)", "", "0", true},
		{"G(!p|Fq)", "21", "102", true},
		{"!pUq", "0", "2", true},
		{"!pUq", "1", "2", false},
		{"!(pUq)", "0", "2", true},
		{"FpUq", "00", "1", false}, // of (Fp)Uq, not of F(pUq): q never comes
		{"FpUq", "0", "2", false},  // of (Fp)Uq: q is not yet here, p never comes
		{"F(pUq)", "0", "2", true},
		{"XpUq", "", "2", true}, // of (Xp)Uq
		{"XpUq", "22", "0", true},
		{"XpUq", "20", "0", true},
		{"X(pUq)", "20", "0", false},
		{"pUqUp", "2", "1", true}, // of pU(qUp)
		{"1U0U1", "", "0", true},  // of 1U(0U1)
		{"(1U0)U0", "", "0", false},
		{"0R1U0", "", "0", false}, // of 0R(1U0)
		{"(0R1)U1", "", "0", true},
		{"pUq&0", "", "2", false}, // of (pUq)&0
		{"1|pUq", "", "0", true},
		{"0&1Uq|1", "", "0", true},
		{"pUq&qUp", "", "12", true},
		{"pU(q&Xq)", "12", "12", false},
		{"pU(q&Xq)", "13", "12", false},
		{"pU(q&Xq)", "132", "12", true},
		{"GF(p&X!p)&GFq", "", "10", false},
		{"GF(p&X!p)&GFq", "", "1012", true},
	} {
		agree(t, x.text, lasso(x.head, x.loop), x.want)
	}
}

// lassos answers all with so many letters at most.
func lassos(head, loop int) []api.Lasso {
	words := func(from, to int) [][]int {
		var out [][]int
		row := [][]int{{}}
		for n := range to + 1 {
			if n >= from {
				out = append(out, row...)
			}
			var longer [][]int
			for _, w := range row {
				for letter := range 4 {
					longer = append(longer, append(slices.Clone(w), letter))
				}
			}
			row = longer
		}
		return out
	}
	var out []api.Lasso
	for _, h := range words(0, head) {
		for _, l := range words(1, loop) {
			out = append(out, api.Lasso{Head: h, Loop: l})
		}
	}
	return out
}

// autoOf answers Auto's, which Check takes.
func autoOf(t *testing.T, text string) api.Auto {
	t.Helper()
	a, e := time.Auto(text)
	if e != api.OK || buchi.Check(a) != api.OK || a.Letters != 4 {
		t.Fatalf("%q: %v, %v, %v", text, e, buchi.Check(a), a)
	}
	return a
}

func checkShape(t *testing.T, f *shape, all []api.Lasso) (held int) {
	t.Helper()
	text := f.text(0)
	a := autoOf(t, text)
	for _, l := range all {
		want := f.says(l, 0)
		if want {
			held++
		}
		if is, e := time.Holds(text, l); is != want || e != api.OK {
			t.Fatalf("%q: Holds of %v: %v, %v, not %v", text, l, is, e, want)
		}
		if is, e := buchi.Accepts(a, l); is != want || e != api.OK {
			t.Fatalf("%q: accepts %v: %v, %v, not %v", text, l, is, e, want)
		}
	}
	return held
}

// H3, H4: all formulas of up to four nodes.
func TestSmall(t *testing.T) {
	all := lassos(1, 2)
	for nodes := 1; nodes <= 4; nodes++ {
		for _, f := range shapes(nodes, 5) {
			checkShape(t, f, all)
		}
	}
}

// H3, H4: formulas as large as may be.
func TestMany(t *testing.T) {
	x, held := dice(2), 0
	for range 3000 {
		times := 5
		f := x.shape(4+x.roll(27), &times)
		if n, s := f.count(); n > 30 || s > 5 {
			t.Fatal(f.text(0))
		}
		var all []api.Lasso
		for range 8 {
			all = append(all, x.lasso(4, 4))
		}
		held += checkShape(t, f, all)
	}
	if held < 4000 || held > 20000 {
		t.Error("nearly all are the same:", held)
	}
}

// H4: no automaton is too large, and words that are not told by small lassos are told as well.
func TestAutoOfLargest(t *testing.T) {
	x := dice(3)
	var all []api.Lasso
	for range 40 {
		all = append(all, x.lasso(60, 60))
	}
	for _, text := range []string{
		"pUqUpUqUpUq", "((((pUq)Up)Uq)Up)Uq", "pRqRpRqRpRq", "((((pRq)Rp)Rq)Rp)Rq", "FGFGFp", "GFGFGp", "XXXXXp", "XFXFXp",
		"GFp&GFq&F(p&q)", "GF(pU(qR(Xp)))", "(pUq)R(qUp)&GF(p&q)", "Fp&Fq&F(p&q)&F!p&F!q", "Gp|Gq|G(p|q)|G!p|G!q",
		"G(p|Xq)&G(!p|Fq)&0", "X(pU(qRX(pUq)))|!p&!q&!(p&q)&(p|q)&(0|!0)",
		again("(", 40) + "XFGpUqRp" + again(")", 40),
	} {
		a := autoOf(t, text)
		for _, l := range all {
			want, e := time.Holds(text, l)
			if is, f := buchi.Accepts(a, l); is != want || e != api.OK || f != api.OK {
				t.Fatalf("%q: %v, not %v (%v, %v) at %v", text, is, want, e, f, l)
			}
		}
	}
}

// H3: the largest lassos; what is looked for stands at their ends.
func TestHoldsOfLargest(t *testing.T) {
	head, loop := make([]int, 60), make([]int, 60)
	loop[59] = 2
	l := api.Lasso{Head: head, Loop: loop}
	for text, want := range map[string]bool{"Fq": true, "GFq": true, "!pUq": true, "G!p": true, "FGq": false, "Fp": false, "GF(q&X!q)": true, "F(q&Xq)": false} {
		agree(t, text, l, want)
	}
	head[59] = 1
	for text, want := range map[string]bool{"Fp": true, "GFp": false, "!pUq": false, "!qUp": true, "F(p&X(!pUq))": true, "G(!p|XFq)": true} {
		agree(t, text, l, want)
	}
}

// H1: what is the same, by the chapter's words or by all that is known, is so of all infinite words: no word has just
// one of both.
func TestLaws(t *testing.T) {
	for _, x := range [][2]string{
		{"Fp", "1Up"}, {"Gp", "0Rp"}, {"pRq", "!(!pU!q)"}, {"Gp", "!F!p"}, {"!Xp", "X!p"},
		{"pUq", "q|p&X(pUq)"}, {"pRq", "q&(p|X(pRq))"}, {"Fp", "p|XFp"}, {"Gp", "p&XGp"},
		{"X(p&q)", "Xp&Xq"}, {"X(pUq)", "XpUXq"}, {"FFp", "Fp"}, {"GGp", "Gp"}, {"pU(pUq)", "pUq"},
		{"FGFp", "GFp"}, {"GFGp", "FGp"}, {"F(p|q)", "Fp|Fq"}, {"G(p&q)", "Gp&Gq"},
		{"(p&q)U1", "1"}, {"0Up", "p"}, {"1Rp", "p"}, {"pU0", "0"}, {"pR1", "1"}, {"pUq", "pUq&Fq"},
		{"p|q&p", "p"}, {"!(p|q)", "!p&!q"}, {"pUqUp", "pU(qUp)"}, {"!pUq", "(!p)Uq"}, {"XpUq", "(Xp)Uq"},
	} {
		text := "(" + x[0] + ")&!(" + x[1] + ")|!(" + x[0] + ")&(" + x[1] + ")"
		if time.Check(text).Code != api.OK {
			// too many operators of time for both in one: twice each
			checkAlike(t, x[0], x[1])
			continue
		}
		if l, is, e := buchi.Some(autoOf(t, text)); is || e != api.OK {
			t.Errorf("%q: %v has just one of both, %v", x, l, e)
		}
	}
}

// checkAlike asks whether a word has the one and not the other, each way by its own.
func checkAlike(t *testing.T, f, g string) {
	t.Helper()
	for _, text := range []string{"(" + f + ")&!(" + g + ")", "!(" + f + ")&(" + g + ")"} {
		if l, is, e := buchi.Some(autoOf(t, text)); is || e != api.OK {
			t.Errorf("%q: %v, %v", text, l, e)
		}
	}
}

// H4: a word that Some finds has the formula; where it finds none, no lasso has.
func TestSome(t *testing.T) {
	x, all, none := dice(4), lassos(1, 2), 0
	for range 2000 {
		times := 3
		text := x.shape(2+x.roll(12), &times).text(0)
		l, is, e := buchi.Some(autoOf(t, text))
		if e != api.OK {
			t.Fatal(text, e)
		}
		if is {
			if held, e := time.Holds(text, l); !held || e != api.OK {
				t.Fatalf("%q: %v, %v at %v", text, held, e, l)
			}
			continue
		}
		none++
		for _, l := range all {
			if held, _ := time.Holds(text, l); held {
				t.Fatalf("%q: none, but %v", text, l)
			}
		}
	}
	if none == 0 || none > 1500 {
		t.Error("nearly all are the same:", none)
	}
}

// H3: the formula's fault ahead of the lasso's; then what Lasso says with four letters.
func TestHoldsRefuses(t *testing.T) {
	long := make([]int, 61)
	for _, x := range []struct {
		text string
		l    api.Lasso
		want api.Errno
	}{
		{"1", lasso("0123", "0123"), api.OK},
		{"1", api.Lasso{Head: long[:60], Loop: long[:60]}, api.OK},
		{"1", api.Lasso{}, api.ErrSize},
		{"1", lasso("0", ""), api.ErrSize},
		{"1", api.Lasso{Head: long, Loop: []int{0}}, api.ErrSize},
		{"1", api.Lasso{Loop: long}, api.ErrSize},
		{"1", lasso("4", "0"), api.ErrRange},
		{"1", lasso("", "04"), api.ErrRange},
		{"1", api.Lasso{Loop: []int{-1}}, api.ErrRange},
		{"1", api.Lasso{Head: []int{-1 << 63}, Loop: []int{1<<63 - 1}}, api.ErrRange},
		{"1", lasso("4", ""), api.ErrRange},
		{"1", api.Lasso{Head: []int{7}, Loop: long}, api.ErrRange},
		{"1", api.Lasso{Head: long, Loop: []int{7}}, api.ErrSize},
		{"", api.Lasso{}, api.ErrSyntax},
		{"pU", lasso("", "1"), api.ErrSyntax},
		{"pU", lasso("4", "1"), api.ErrSyntax},
		{"XXXXXX1", lasso("", "1"), api.ErrSyntax},
		{"XXXXXX1", api.Lasso{Loop: long}, api.ErrSyntax},
		{again("!", 30) + "1", lasso("", "1"), api.ErrSyntax},
		{again("(", 41) + "1" + again(")", 41), lasso("", "1"), api.ErrSyntax},
		{again("1", 4001), lasso("", "1"), api.ErrSyntax},
	} {
		if is, e := time.Holds(x.text, x.l); e != x.want || is != (e == api.OK) {
			t.Errorf("%q of %v: %v, %v, not %v", x.text, x.l, is, e, x.want)
		}
	}
}

// H4: what Check refuses.
func TestAutoRefuses(t *testing.T) {
	for _, text := range []string{"", "pU", "XXXXXX1", "p)", again("!", 30) + "1", again("(", 41) + "1" + again(")", 41), again("1", 4001)} {
		if a, e := time.Auto(text); e != api.ErrSyntax || !reflect.DeepEqual(a, api.Auto{}) {
			t.Errorf("%q: %v, %v", text, a, e)
		}
	}
}

// P3: a lasso is left as it is, what lies behind it is not looked at, and what comes out shares no memory.
func TestMemory(t *testing.T) {
	roomy := func(row ...int) []int { return append(row, 99, 99)[:len(row)] }
	l := api.Lasso{Head: roomy(0, 2), Loop: roomy(1, 0)}
	if is, e := time.Holds("GFp&Fq", l); !is || e != api.OK {
		t.Error(is, e)
	}
	if !slices.Equal(l.Head[:4], []int{0, 2, 99, 99}) || !slices.Equal(l.Loop[:4], []int{1, 0, 99, 99}) {
		t.Error(l.Head[:4], l.Loop[:4])
	}
	a, want := autoOf(t, "pUq"), autoOf(t, "pUq")
	final := slices.Clone(a.Final)
	a.Start = append(a.Start, -7, -7)
	a.Start[0] = -7
	if !slices.Equal(a.Final, final) {
		t.Error("Start and Final share memory")
	}
	for i := range a.Final {
		a.Final[i] = -7
	}
	for i := range a.Steps {
		a.Steps[i].From = -7
	}
	if again := autoOf(t, "pUq"); !reflect.DeepEqual(again, want) {
		t.Error(again, want)
	}
}

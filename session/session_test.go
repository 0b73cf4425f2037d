package session_test

import (
	"slices"
	"strings"
	"testing"

	"evermore/session"
)

// says sees that a line is answered so: alone, with a newline behind it, and among others.
func says(t *testing.T, line, want string) {
	t.Helper()
	for _, x := range [][2]string{
		{line, want + "\n"},
		{line + "\n", want + "\n"},
		{"\n" + line + "\n\n", "error syntax\n" + want + "\nerror syntax\n"},
		{"states a\n" + line + "\nnormal (b)", "3\n" + want + "\n(b)\n"},
	} {
		if x[0] == "" {
			continue
		}
		if got := session.Run(x[0]); got != x[1] {
			t.Errorf("%q: %q, not %q", x[0], got, x[1])
		}
	}
}

type pair struct{ line, want string }

func all(t *testing.T, l []pair) {
	t.Helper()
	for _, x := range l {
		says(t, x.line, x.want)
	}
}

// O1: where lines begin and end.
func TestLines(t *testing.T) {
	for _, x := range [][2]string{
		{"", ""},
		{"\n", "error syntax\n"},
		{"\n\n", "error syntax\nerror syntax\n"},
		{"states 1", "2\n"},
		{"states 1\n", "2\n"},
		{"states 1\n\n", "2\nerror syntax\n"},
		{"\nstates 1", "error syntax\n2\n"},
		{"states 1\nstates 0", "2\n1\n"},
		{"states 1\nstates 0\n", "2\n1\n"},
		{"states 1\r\nstates 0\r", "error syntax at 1\nerror syntax at 1\n"},
		{"has a \nhas 1 \n", "no\nyes\n"},
		{"has 1 ", "yes\n"},
		{"states 1\x00states 0", "error syntax at 1\n"},
		{"states\n1", "error syntax at 0\nerror syntax\n"},
		{strings.Repeat("\n", 16000), strings.Repeat("error syntax\n", 16000)},
	} {
		if got := session.Run(x[0]); got != x[1] {
			t.Errorf("%q: %q, not %q", x[0], got, x[1])
		}
	}
}

// O1: 16000 bytes are a session, 16001 are none, whatever stands in them.
func TestSize(t *testing.T) {
	fill := func(s string, n int) string { return s + strings.Repeat("\n", n-len(s)) }
	long := "states 0\nnormal a(bb)\n"
	want := "1\na(b)\n" + strings.Repeat("error syntax\n", 16000-len(long))
	if got := session.Run(fill(long, 16000)); got != want {
		t.Errorf("16000 bytes: %d bytes", len(got))
	}
	for _, text := range []string{
		fill(long, 16001), strings.Repeat("\n", 16001), strings.Repeat("a", 16001), strings.Repeat(long, 1000),
		"states " + strings.Repeat("1", 16000-7) + "\n", strings.Repeat("\xff", 1<<20),
	} {
		if got := session.Run(text); got != "error size\n" {
			t.Errorf("%d bytes: %.40q", len(text), got)
		}
	}
	if got := session.Run(strings.Repeat("a", 16000)); got != "error syntax\n" {
		t.Errorf("one line: %.40q", got)
	}
}

// O1, O2: states.
func TestStates(t *testing.T) {
	all(t, []pair{
		{"states (a+b)*a", "3"},
		{"states (a+b+c+d)*a", "2"},
		{"states (a+b+c+d)*", "1"},
		{"states 0", "1"},
		{"states 1", "2"},
		{"states a", "3"},
		{"states d", "3"},
		{"states a*b*c*d*", "5"},
		{"states aaaaaaaaaa", "12"},
		{"states (a+b+c+d)*a(a+b+c+d)", "4"},
		{"states aaaaaaaaaaa", "error full"},
		{"states " + strings.Repeat("a", 4000), "error full"},
		{"states " + strings.Repeat("a", 4001), "error size at 0"},
		{"states " + strings.Repeat("+", 4001), "error size at 0"},
		{"states " + strings.Repeat("(", 40) + "a" + strings.Repeat(")", 40), "3"},
		{"states " + strings.Repeat("(", 41) + "a" + strings.Repeat(")", 41), "error full at 40"},
		{"states a+", "error syntax at 2"},
		{"states +a", "error syntax at 0"},
		{"states e", "error syntax at 0"},
		{"states aaaaaaaaaaa)", "error syntax at 11"},
		{"states ", "error syntax at 0"},
		{"states", "error syntax at 0"},
		{"states  a", "error syntax at 0"},
		{"states a ", "error syntax at 1"},
		{"states a b", "error syntax at 1"},
		{"states\ta", "error syntax"},
	})
}

// O1, O2: has. What is wrong with the text comes ahead of what is wrong with the word.
func TestHas(t *testing.T) {
	sixty := strings.Repeat("a", 60)
	all(t, []pair{
		{"has a*b aab", "yes"},
		{"has a*b aaba", "no"},
		{"has a*b ", "no"},
		{"has a* ", "yes"},
		{"has (c+d)* cddc", "yes"},
		{"has (a+b)* c", "no"},
		{"has abcd abcd", "yes"},
		{"has abcd abdc", "no"},
		{"has a* " + sixty, "yes"},
		{"has aaaaaaaaaaaa aaaaaaaaaaaa", "yes"},
		{"has a* a" + sixty, "error size"},
		{"has a* " + strings.Repeat("d", 61), "error size"},
		{"has a* e", "error syntax"},
		{"has a* aaA", "error syntax"},
		{"has a* `", "error syntax"},
		{"has a* \xff", "error syntax"},
		{"has a* a(a)", "error syntax"},
		{"has a* 1", "error syntax"},
		{"has a* " + sixty + "ae", "error syntax"},
		{"has a+ a", "error syntax at 2"},
		{"has a+ e", "error syntax at 2"},
		{"has a+ a" + sixty, "error syntax at 2"},
		{"has  a", "error syntax at 0"},
		{"has  ", "error syntax at 0"},
		{"has " + strings.Repeat("a", 4001) + " e", "error size at 0"},
		{"has " + strings.Repeat("(", 41) + " e", "error full at 40"},
		{"has", "error syntax"},
		{"has ", "error syntax"},
		{"has a*", "error syntax"},
		{"has a*  a", "error syntax"},
		{"has a* a ", "error syntax"},
		{"has  a* a", "error syntax"},
		{"has + a b", "error syntax"},
		{"has a* a a", "error syntax"},
	})
}

// O1, O2: first. All that is wrong with the first text comes ahead of all that is wrong with the second.
func TestFirst(t *testing.T) {
	eleven := strings.Repeat("a", 11)
	all(t, []pair{
		{"first a* a+aa*", "word "},
		{"first a* 1+aa*", "same"},
		{"first 0 0", "same"},
		{"first 0 1", "word "},
		{"first 0 d", "word d"},
		{"first d 0", "word d"},
		{"first (a+b)* (a+b+c)*", "word c"},
		{"first (a+b+c+d)* (b*a*c*d*)*", "same"},
		{"first a*b* (a+b)*", "word ba"},
		{"first (ab)* (ba)*", "word ab"},
		{"first dcba+abcd 0", "word abcd"},
		{"first aaaaaaaaaa aaaaaaaaa", "word aaaaaaaaa"},
		{"first a+ a", "error syntax at 2"},
		{"first a aa+", "error syntax at 3"},
		{"first a+ aa+", "error syntax at 2"},
		{"first " + eleven + " a", "error full"},
		{"first a " + eleven, "error full"},
		{"first " + eleven + " a+", "error full"},
		{"first a+ " + eleven, "error syntax at 2"},
		{"first " + eleven + "+ " + eleven, "error syntax at 12"},
		{"first a " + strings.Repeat("(", 41), "error full at 40"},
		{"first a " + strings.Repeat("a", 4001), "error size at 0"},
		{"first " + strings.Repeat("a", 4001) + " +", "error size at 0"},
		{"first  a", "error syntax at 0"},
		{"first a ", "error syntax at 0"},
		{"first a", "error syntax"},
		{"first a a a", "error syntax"},
		{"first a  a", "error syntax"},
		{"first + + ", "error syntax"},
		{"first", "error syntax"},
	})
}

// O1, O2: counts.
func TestCounts(t *testing.T) {
	all(t, []pair{
		{"counts (aa)*", "word a times 2"},
		{"counts (aaa)*", "word a times 3"},
		{"counts (aaaa)*", "word a times 4"},
		{"counts (dd)*", "word d times 2"},
		{"counts (abab)*", "word ab times 2"},
		{"counts a*b", "none"},
		{"counts 0", "none"},
		{"counts 1", "none"},
		{"counts (ab)*", "none"},
		{"counts abc", "none"},
		{"counts abcd", "error size"},
		{"counts aaaaaaaaaa", "error size"},
		{"counts (a+b+c+d)*a(a+b+c+d)(a+b+c+d)", "error full"},
		{"counts aaaaaaaaaaa", "error full"},
		{"counts a+", "error syntax at 2"},
		{"counts", "error syntax at 0"},
		{"counts a b", "error syntax at 1"},
		{"counts " + strings.Repeat("(", 41), "error full at 40"},
		{"counts " + strings.Repeat("a", 4001), "error size at 0"},
	})
}

// O1, O2: formula.
func TestFormula(t *testing.T) {
	all(t, []pair{
		{"formula Ex(ax&!Eyx<y)", "2"},
		{"formula Exax", "2"},
		{"formula Axx=x", "1"},
		{"formula !Axx=x", "1"},
		{"formula ExEyx~y", "3"},
		{"formula EX(Ex(Xx&!Eyy<x)&Ex(!Xx&!Eyx<y)&AxAy(!x~y|(Xx&!Xy)|(!Xx&Xy)))", "3"},
		{"formula ExEzAy(bx&x<z&by)", "error full"},
		{"formula ExEyEz(!y~z&bz)", "error full"},
		{"formula Ex", "error syntax at 2"},
		{"formula Exay", "error name at 3"},
		{"formula ax", "error name at 1"},
		{"formula ExEyEzEXax", "error full at 6"},
		{"formula " + strings.Repeat("(", 41), "error full at 40"},
		{"formula " + strings.Repeat("!", 31), "error full at 30"},
		{"formula " + strings.Repeat("!", 4001), "error size at 0"},
		{"formula", "error syntax at 0"},
		{"formula ", "error syntax at 0"},
		{"formula Exax ", "error syntax at 4"},
		{"formula Ex ax", "error syntax at 2"},
		{"formula GFp", "error syntax at 0"},
	})
}

// O1, O2: true.
func TestTrue(t *testing.T) {
	all(t, []pair{
		{"true Exax aab", "yes"},
		{"true Exax bbb", "no"},
		{"true Exax ", "no"},
		{"true Axax ", "yes"},
		{"true Ex(ax&!Eyx<y) ba", "yes"},
		{"true Ex(ax&!Eyx<y) ab", "no"},
		{"true Exax bbbbba", "yes"},
		{"true Exax bbbbbba", "error size"},
		{"true Exax ccccccc", "error size"},
		{"true Exax c", "error range"},
		{"true Exax ad", "error range"},
		{"true Exax e", "error syntax"},
		{"true Exax aaaaaaae", "error syntax"},
		{"true Ex e", "error syntax at 2"},
		{"true Ex c", "error syntax at 2"},
		{"true Exay aaaaaaa", "error name at 3"},
		{"true ExEyEzEXax e", "error full at 6"},
		{"true " + strings.Repeat("!", 4001) + " e", "error size at 0"},
		{"true  a", "error syntax at 0"},
		{"true", "error syntax"},
		{"true Exax", "error syntax"},
		{"true Exax a a", "error syntax"},
		{"true Ex  a", "error syntax"},
	})
}

// O1, O2: holds.
func TestHolds(t *testing.T) {
	sixty := strings.Repeat("a", 60)
	all(t, []pair{
		{"holds GFp a(b)", "yes"},
		{"holds GFp b(a)", "no"},
		{"holds GFp (ad)", "yes"},
		{"holds p b(a)", "yes"},
		{"holds q b(a)", "no"},
		{"holds q c(a)", "yes"},
		{"holds XXq abd(a)", "yes"},
		{"holds pUq bbbc(a)", "yes"},
		{"holds Fp " + sixty + "(" + sixty[1:] + "b)", "yes"},
		{"holds Fp " + sixty + "a(b)", "error size"},
		{"holds Fp (" + sixty + "a)", "error size"},
		{"holds Fp a()", "error size"},
		{"holds Fp ()", "error size"},
		{"holds Fp ", "error syntax"},
		{"holds Fp a", "error syntax"},
		{"holds Fp a(b", "error syntax"},
		{"holds Fp a(b)c", "error syntax"},
		{"holds Fp e(b)", "error syntax"},
		{"holds Fp a(e)", "error syntax"},
		{"holds Fp " + sixty + "a(e)", "error syntax"},
		{"holds F a(b)", "error syntax at 1"},
		{"holds F a", "error syntax at 1"},
		{"holds F a()", "error syntax at 1"},
		{"holds XXXXXXp e", "error full at 5"},
		{"holds " + strings.Repeat("(", 41) + " e", "error full at 40"},
		{"holds " + strings.Repeat("!", 4001) + " e", "error size at 0"},
		{"holds  a(b)", "error syntax at 0"},
		{"holds", "error syntax"},
		{"holds Fp", "error syntax"},
		{"holds Fp a( b)", "error syntax"},
		{"holds Fp a (b)", "error syntax"},
		{"holds F  a(b)", "error syntax"},
	})
}

// O1, O2: normal.
func TestNormal(t *testing.T) {
	sixty := strings.Repeat("a", 60)
	all(t, []pair{
		{"normal ab(abab)", "(ab)"},
		{"normal ab(bb)", "a(b)"},
		{"normal (a)", "(a)"},
		{"normal dcba(abcd)", "dcba(abcd)"},
		{"normal " + sixty + "(" + sixty + ")", "(a)"},
		{"normal " + sixty + "a(a)", "error size"},
		{"normal (" + sixty + "a)", "error size"},
		{"normal a()", "error size"},
		{"normal ()", "error size"},
		{"normal " + sixty + "a()", "error size"},
		{"normal", "error syntax"},
		{"normal ", "error syntax"},
		{"normal a", "error syntax"},
		{"normal (", "error syntax"},
		{"normal )", "error syntax"},
		{"normal )(", "error syntax"},
		{"normal a(b", "error syntax"},
		{"normal ab)", "error syntax"},
		{"normal a((b))", "error syntax"},
		{"normal a(b))", "error syntax"},
		{"normal a(b)(c)", "error syntax"},
		{"normal a(b)a", "error syntax"},
		{"normal a(b) ", "error syntax"},
		{"normal  a(b)", "error syntax"},
		{"normal a (b)", "error syntax"},
		{"normal a(b c)", "error syntax"},
		{"normal e(a)", "error syntax"},
		{"normal a(e)", "error syntax"},
		{"normal A(b)", "error syntax"},
		{"normal " + strings.Repeat("a", 70) + "(e)", "error syntax"},
	})
}

// O2: other words.
func TestOtherWords(t *testing.T) {
	all(t, []pair{
		{"", "error syntax"},
		{" ", "error syntax"},
		{"  ", "error syntax"},
		{"what", "error syntax"},
		{"what a b", "error syntax"},
		{"State a", "error syntax"},
		{"STATES a", "error syntax"},
		{"state a", "error syntax"},
		{"statess a", "error syntax"},
		{" states a", "error syntax"},
		{"states(a)", "error syntax"},
		{"hasa* a", "error syntax"},
		{"first: a b", "error syntax"},
		{"text a", "error syntax"},
		{"False Exax a", "error syntax"},
		{"\xff\xfe \xff \xff", "error syntax"},
	})
}

// pieces of which lines are made, so that much of what is drawn is a question, and much is nearly one.
var (
	names  = strings.Split("states has first counts formula true holds normal what Has", " ")
	words  = strings.Split("a* (aa)* (a+b)*a abcd 0 1 (a*)* (ab)*+c aaaaaaaaaaa (bb+a)* (abc+d)* a+ e )", " ")
	places = strings.Split("Exax Ax(bx|ax) ExEyx<y Axx=x EXAxXx ExEzAy(bx&x<z&by) Exay Ex !Exbx", " ")
	times  = strings.Split("GFp pUq XXp F !0 FGq XXXXXXp 0Rp", " ")
	ends   = strings.Split("a b aab abab dd aaaaaaa c e A", " ")
	lassos = strings.Split("a(b) (ab) cd(dcd) ab(abab) (d) a() a( (ab)a (e)", " ")
	blanks = []string{" ", " ", " ", " ", " ", " ", " ", " ", "", "  ", "\t"}
)

// likely are the pieces that may stand behind a name, one list for each text.
func likely(name string) [][]string {
	switch name {
	case "states", "counts":
		return [][]string{words}
	case "has":
		return [][]string{words, ends}
	case "first":
		return [][]string{words, words}
	case "formula":
		return [][]string{places}
	case "true":
		return [][]string{places, ends}
	case "holds":
		return [][]string{times, lassos}
	case "normal":
		return [][]string{lassos}
	}
	return nil
}

func anything() []string { return slices.Concat(words, places, times, ends, lassos) }

func (x *dice) line() string {
	name := x.of(names)
	s := name
	for _, l := range likely(name) {
		if x.roll(12) == 0 {
			l = anything()
		}
		s += x.of(blanks) + x.of(l)
	}
	if x.roll(12) == 0 {
		s += x.of(blanks) + x.of(anything())
	}
	if x.roll(12) == 0 {
		s += x.of(blanks)
	}
	return s
}

// O1, O2: lines of all kinds, held against the judge; whole sessions are their lines, one by one.
func TestAgainstJudge(t *testing.T) {
	x := dice(15)
	kinds := map[string]int{}
	for range 2000 {
		var text, want string
		for range 1 + x.roll(20) {
			line := x.line()
			answer := judged(line)
			kinds[strings.Split(answer, " ")[0]]++
			text += line + "\n"
			want += answer + "\n"
			if got := session.Run(line); got != answer+"\n" {
				t.Fatalf("%q: %q, not %q", line, got, answer)
			}
		}
		if got := session.Run(text); got != want {
			t.Fatalf("%q: %q, not %q", text, got, want)
		}
		if got := session.Run(text[:len(text)-1]); got != want {
			t.Fatalf("%q: %q, not %q", text[:len(text)-1], got, want)
		}
	}
	for _, k := range []string{"yes", "no", "word", "same", "none", "error"} {
		if kinds[k] < 40 {
			t.Errorf("%q: %d times alone", k, kinds[k])
		}
	}
}

// O1, O2: each name, with each text behind it, and each two.
func TestAllLines(t *testing.T) {
	for _, n := range names {
		for _, one := range anything() {
			line := n + " " + one
			if got, want := session.Run(line), judged(line)+"\n"; got != want {
				t.Errorf("%q: %q, not %q", line, got, want)
			}
			for _, other := range anything() {
				line := n + " " + one + " " + other
				if got, want := session.Run(line), judged(line)+"\n"; got != want {
					t.Errorf("%q: %q, not %q", line, got, want)
				}
			}
		}
	}
}

// P1: bytes of any kind are answered, a line by a line.
func TestAnyBytes(t *testing.T) {
	x := dice(1)
	for range 2000 {
		b := []byte(x.line())
		for range x.roll(4) {
			b[x.roll(len(b))] = byte(x.roll(256))
		}
		text := string(b)
		want := ""
		for _, line := range strings.SplitAfter(text, "\n") {
			if line != "" {
				want += judged(strings.TrimSuffix(line, "\n")) + "\n"
			}
		}
		if got := session.Run(text); got != want {
			t.Errorf("%q: %q, not %q", text, got, want)
		}
	}
}

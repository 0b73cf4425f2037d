package regular_test

import (
	"slices"
	"strings"
	"testing"

	"evermore/api"
	"evermore/regular"
)

// looked tells what Check has to say, by counting brackets: no tree is read.
func looked(text string) api.Fault {
	if len(text) > 4000 {
		return api.Fault{Code: api.ErrSize}
	}
	open, wanted := 0, true // wanted: a part must stand here
	for i := range len(text) {
		b := text[i]
		switch {
		case b == '(' && open == 40:
			return api.Fault{Code: api.ErrFull, At: i}
		case b == '(':
			open, wanted = open+1, true
		case strings.IndexByte("01abcd", b) >= 0:
			wanted = false
		case b == '+' && !wanted:
			wanted = true
		case b == '*' && !wanted:
		case b == ')' && !wanted && open > 0:
			open--
		default:
			return api.Fault{Code: api.ErrSyntax, At: i}
		}
	}
	if wanted || open > 0 {
		return api.Fault{Code: api.ErrSyntax, At: len(text)}
	}
	return api.Fault{}
}

// texts calls see with each text of at most n of the bytes.
func texts(n int, bytes string, see func(string)) {
	var grow func(string)
	grow = func(s string) {
		see(s)
		if len(s) == n {
			return
		}
		for i := range len(bytes) {
			grow(s + bytes[i:i+1])
		}
	}
	grow("")
}

// B1: the form of texts, held against a count of brackets.
func TestCheckSmallTexts(t *testing.T) {
	right := 0
	texts(6, "a1()+*e", func(s string) {
		got := regular.Check(s)
		if got != looked(s) {
			t.Errorf("Check(%q) is %v, not %v", s, got, looked(s))
		}
		if got.Code == api.OK {
			right++
		}
	})
	if right == 0 {
		t.Error("no text is one")
	}
}

func TestCheckEachByte(t *testing.T) {
	for b := range 256 {
		for _, around := range [][2]string{{"", ""}, {"a", "b"}, {"(a", ")"}, {"a+", ""}} {
			s := around[0] + string([]byte{byte(b)}) + around[1]
			if got := regular.Check(s); got != looked(s) {
				t.Errorf("Check(%q) is %v, not %v", s, got, looked(s))
			}
		}
	}
}

func TestCheckPlaces(t *testing.T) {
	for _, x := range []struct {
		text string
		code api.Errno
		at   int
	}{
		{"0", api.OK, 0},
		{"1", api.OK, 0},
		{"abcd01", api.OK, 0},
		{"(a+b)*a", api.OK, 0},
		{"a***", api.OK, 0},
		{"((a))*(b)", api.OK, 0},
		{"", api.ErrSyntax, 0},
		{" ", api.ErrSyntax, 0},
		{"a b", api.ErrSyntax, 1},
		{"a+b ", api.ErrSyntax, 3},
		{"+a", api.ErrSyntax, 0},
		{"a++b", api.ErrSyntax, 2},
		{"a+*", api.ErrSyntax, 2},
		{"a+", api.ErrSyntax, 2},
		{"(", api.ErrSyntax, 1},
		{"()", api.ErrSyntax, 1},
		{"(*a)", api.ErrSyntax, 1},
		{"(a+)", api.ErrSyntax, 3},
		{"(a)b)c", api.ErrSyntax, 4},
		{"((a)", api.ErrSyntax, 4},
		{")", api.ErrSyntax, 0},
		{"2", api.ErrSyntax, 0},
		{"A", api.ErrSyntax, 0},
		{"ae", api.ErrSyntax, 1},
		{"aé", api.ErrSyntax, 1},
		{"a\x00", api.ErrSyntax, 1},
		{"\x00", api.ErrSyntax, 0},
		{"(a\x00)", api.ErrSyntax, 2},
	} {
		if got, want := regular.Check(x.text), (api.Fault{Code: x.code, At: x.at}); got != want {
			t.Errorf("Check(%q) is %v, not %v", x.text, got, want)
		}
	}
}

func nested(many int, inside string) string {
	return strings.Repeat("(", many) + inside + strings.Repeat(")", many)
}

// B1: MaxNest.
func TestCheckNest(t *testing.T) {
	for _, x := range []struct {
		name, text string
		want       api.Fault
	}{
		{"as deep as may be", nested(40, "a"), api.Fault{}},
		{"one deeper", nested(41, "a"), api.Fault{Code: api.ErrFull, At: 40}},
		{"much deeper", nested(1999, "a"), api.Fault{Code: api.ErrFull, At: 40}},
		{"side by side", strings.Repeat("(a)", 100), api.Fault{}},
		{"deep side by side", strings.Repeat(nested(40, "a+1"), 20), api.Fault{}},
		{"deep, then deeper", nested(40, "a") + nested(41, "a"), api.Fault{Code: api.ErrFull, At: 121}},
		{"deeper behind a part", "ab" + nested(40, "c+(d)"), api.Fault{Code: api.ErrFull, At: 44}},
		{"deeper, and then wrong", strings.Repeat("(", 41) + "e", api.Fault{Code: api.ErrFull, At: 40}},
		{"wrong, and then deeper", "e" + nested(41, "a"), api.Fault{Code: api.ErrSyntax}},
		{"wrong within the deepest", nested(40, "a+"), api.Fault{Code: api.ErrSyntax, At: 42}},
		{"deepest, and an end", strings.Repeat("(", 40), api.Fault{Code: api.ErrSyntax, At: 40}},
		{"one more that opens at the end", strings.Repeat("(", 41), api.Fault{Code: api.ErrFull, At: 40}},
	} {
		if got := regular.Check(x.text); got != x.want {
			t.Errorf("%s: %v, not %v", x.name, got, x.want)
		}
	}
}

// B1: MaxText.
func TestCheckSize(t *testing.T) {
	for _, x := range []struct {
		name, text string
		want       api.Fault
	}{
		{"as long as may be", strings.Repeat("a", 4000), api.Fault{}},
		{"stars as long as may be", "a" + strings.Repeat("*", 3999), api.Fault{}},
		{"ends too early, as long as may be", strings.Repeat("a+", 2000), api.Fault{Code: api.ErrSyntax, At: 4000}},
		{"one longer", strings.Repeat("a", 4001), api.Fault{Code: api.ErrSize}},
		{"longer and wrong", strings.Repeat("?", 4001), api.Fault{Code: api.ErrSize}},
		{"longer and too deep", nested(2001, "a"), api.Fault{Code: api.ErrSize}},
		{"longer by bytes, not by signs", strings.Repeat("é", 2001), api.Fault{Code: api.ErrSize}},
		{"much longer", strings.Repeat("(a+b)*", 100000), api.Fault{Code: api.ErrSize}},
	} {
		if got := regular.Check(x.text); got != x.want {
			t.Errorf("%s: %v, not %v", x.name, got, x.want)
		}
	}
}

func numbers(s string) []int {
	w := make([]int, len(s))
	for i := range len(s) {
		w[i] = int(s[i] - 'a')
	}
	return w
}

// B1, B2: what a text tells.
func TestHasByHand(t *testing.T) {
	for _, x := range []struct {
		text, word string
		is         bool
	}{
		{"0", "", false},
		{"0", "a", false},
		{"1", "", true},
		{"1", "a", false},
		{"a", "a", true},
		{"b", "b", true},
		{"c", "c", true},
		{"d", "d", true},
		{"a", "b", false},
		{"d", "c", false},
		{"a", "", false},
		{"a", "aa", false},
		{"ab", "ab", true},
		{"ab", "ba", false},
		{"a0", "a", false},
		{"0a+b", "b", true},
		{"1a1", "a", true},
		{"a+bc", "a", true},
		{"a+bc", "bc", true},
		{"a+bc", "ac", false},
		{"(a+b)c", "ac", true},
		{"ab*", "abbb", true},
		{"ab*", "abab", false},
		{"(ab)*", "abab", true},
		{"(ab)*", "aba", false},
		{"a*", "", true},
		{"0*", "", true},
		{"0*", "a", false},
		{"1*", "", true},
		{"a**", "aaa", true},
		{"(a*b*)*", "abba", true},
		{"(a*+b)*c", "bab", false},
		{"(a+b)*a", "bba", true},
		{"(a+b)*a", "bab", false},
		{"(aa+aaa)*", "a", false},
		{"(aa+aaa)*", "aaaaaaa", true},
		{"(aaa+aaaaa)*", "aaaaaaa", false},
		{"(a+1)(a+1)(a+1)", "aa", true},
		{"(a+1)(a+1)(a+1)", "aaaa", false},
	} {
		if is, e := regular.Has(x.text, numbers(x.word)); is != x.is || e != api.OK {
			t.Errorf("Has(%q, %q) is %v, %v", x.text, x.word, is, e)
		}
	}
}

// told is a text and all its words of at most 4 letters, put together beside it. level: 0: a part, 1: with stars, 2: a row, 3: any.
type told struct {
	text  string
	level int
	words map[string]bool
}

const longest = 4

func (x told) within(level int) string {
	if x.level <= level {
		return x.text
	}
	return "(" + x.text + ")"
}

func plus(x, y told) told {
	words := map[string]bool{}
	for w := range x.words {
		words[w] = true
	}
	for w := range y.words {
		words[w] = true
	}
	return told{x.within(3) + "+" + y.within(2), 3, words}
}

func behind(x, y map[string]bool) map[string]bool {
	words := map[string]bool{}
	for v := range x {
		for w := range y {
			if len(v)+len(w) <= longest {
				words[v+w] = true
			}
		}
	}
	return words
}

func then(x, y told) told {
	return told{x.within(2) + y.within(1), 2, behind(x.words, y.words)}
}

func often(x told) told {
	words := map[string]bool{"": true}
	for range longest {
		for w := range behind(words, x.words) {
			words[w] = true
		}
	}
	return told{x.within(1) + "*", 1, words}
}

func all(parts []told) []told {
	var out []told
	for _, x := range parts {
		out = append(out, often(x))
		for _, y := range parts {
			out = append(out, plus(x, y), then(x, y))
		}
	}
	return out
}

// B1, B2: held against sets of words that grow with the texts.
func TestHasAgainstSets(t *testing.T) {
	least := []told{
		{"0", 0, map[string]bool{}},
		{"1", 0, map[string]bool{"": true}},
		{"a", 0, map[string]bool{"a": true}},
		{"b", 0, map[string]bool{"b": true}},
	}
	second := append(slices.Clone(least), all(least)...)
	third := all(second)
	for i, x := range third {
		if i%7 == 0 {
			third = append(third, often(plus(x, second[i%len(second)])), then(often(x), third[i/2]))
		}
	}
	for _, x := range append(second, third...) {
		if f := regular.Check(x.text); f != (api.Fault{}) {
			t.Fatalf("Check(%q) is %v", x.text, f)
		}
		texts(longest, "ab", func(w string) {
			if is, e := regular.Has(x.text, numbers(w)); is != x.words[w] || e != api.OK {
				t.Errorf("Has(%q, %q) is %v, %v", x.text, w, is, e)
			}
		})
	}
}

// B2: the longest words and texts; stars within stars must not take turns without end.
func TestHasLongest(t *testing.T) {
	a60, deep := make([]int, 60), "a+b"
	ends := slices.Clone(a60)
	ends[59] = 1
	for range 40 {
		deep = "(" + deep + ")*"
	}
	for _, x := range []struct {
		name, text string
		w          []int
		is         bool
	}{
		{"letter by letter", strings.Repeat("a", 60), a60, true},
		{"one letter fewer", strings.Repeat("a", 59), a60, false},
		{"one letter more", strings.Repeat("a", 61), a60, false},
		{"threes", "(aaa)*", a60, true},
		{"sevens", "(aaaaaaa)*", a60, false},
		{"the last one", "a*b", ends, true},
		{"not the last one", "a*b", a60, false},
		{"many that need not be", strings.Repeat("(a+1)", 800), a60, true},
		{"many stars side by side", strings.Repeat("a*", 1999) + "b", a60, false},
		{"stars within stars", deep, ends, true},
		{"stars within stars, and none", deep + "c", ends, false},
		{"a text as long as may be", strings.Repeat("(a+aa)*b*", 444) + "aaaa", a60, true},
		{"stars on stars", "a" + strings.Repeat("*", 3999), a60, true},
	} {
		if is, e := regular.Has(x.text, x.w); is != x.is || e != api.OK {
			t.Errorf("%s: %v, %v", x.name, is, e)
		}
	}
}

// B2: the text is looked at first, then the word.
func TestHasRefuses(t *testing.T) {
	long := make([]int, 61)
	for _, x := range []struct {
		name, text string
		w          []int
		want       api.Errno
	}{
		{"no text", "", nil, api.ErrSyntax},
		{"a text that ends too early", "a*+", nil, api.ErrSyntax},
		{"a text that is too deep", nested(41, "a"), []int{0}, api.ErrSyntax},
		{"a text that is too long", strings.Repeat("a*", 2001), []int{0}, api.ErrSyntax},
		{"the text ahead of the word", "a)", []int{9}, api.ErrSyntax},
		{"the text ahead of the word's size", "?", long, api.ErrSyntax},
		{"a word that is too long", "a*", long, api.ErrSize},
		{"a letter too large", "a*", []int{0, 4}, api.ErrRange},
		{"a letter below 0", "a*", []int{-1}, api.ErrRange},
		{"too long ahead of no letter", "a*", append(slices.Clone(long), 4), api.ErrSize},
		{"no letter, and no word anyway", "0", []int{4}, api.ErrRange},
	} {
		if is, e := regular.Has(x.text, x.w); is || e != x.want {
			t.Errorf("%s: %v, %v, not %v", x.name, is, e, x.want)
		}
	}
	if is, e := regular.Has("a*", []int{3}); is || e != api.OK {
		t.Error("a letter that the text has not is no error:", is, e)
	}
}

// P3: the word is left as it is.
func TestHasLeavesTheWord(t *testing.T) {
	room := []int{7, 0, 1, 1, 9}
	if is, e := regular.Has("(a+b)*", room[1:3]); !is || e != api.OK {
		t.Error(is, e)
	}
	if !slices.Equal(room, []int{7, 0, 1, 1, 9}) {
		t.Error(room)
	}
}

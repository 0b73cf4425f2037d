package regular_test

import (
	"reflect"
	"slices"
	"strings"
	"testing"

	"evermore/api"
	"evermore/det"
	"evermore/regular"
)

// accepts goes letter by letter: what det says of words is not asked.
func accepts(d api.Det, w []int) bool {
	s := d.Start
	for _, l := range w {
		s = d.Next[s][l]
	}
	return d.Mark[s] == 1
}

// some are texts that grow from one another, with their words of at most 4 letters.
func some() []told {
	least := []told{
		{"0", 0, map[string]bool{}},
		{"1", 0, map[string]bool{"": true}},
		{"a", 0, map[string]bool{"a": true}},
		{"b", 0, map[string]bool{"b": true}},
	}
	second := append(slices.Clone(least), all(least)...)
	third := all(second)
	for i, x := range third {
		if i%11 == 0 {
			third = append(third, often(plus(x, second[i%len(second)])), then(often(x), third[i/2]))
		}
	}
	return append(second, third...)
}

// B3: held against the words of texts, and against Least.
func TestDetAgainstSets(t *testing.T) {
	for i, x := range some() {
		letters := 2 + i%3
		d, e := regular.Det(letters, x.text)
		if l, f := det.Least(d); e != api.OK || f != api.OK || d.Letters != letters || !reflect.DeepEqual(l, d) {
			t.Fatalf("Det(%d, %q) is %v, %v; Least of it %v, %v", letters, x.text, d, e, l, f)
		}
		texts(longest, "abcd"[:letters], func(w string) {
			if accepts(d, numbers(w)) != x.words[w] {
				t.Errorf("Det(%d, %q) is %v: wrong at %q", letters, x.text, d, w)
			}
		})
	}
}

// B3: held against Has, at words that are longer.
func TestDetAgainstHas(t *testing.T) {
	for _, text := range []string{
		"(a+b)*a(a+b)(a+b)(a+b)",
		"((a+b)(a+b)(a+b))*(a+1)",
		"(aa+aaa)*b(aa)*",
		"(a*b*a)*(ba)*",
		"a(b(a+1)b*)*(a+0)b",
		"(1+a)(1+b)(1+a)(1+b)(1+a)",
		"((a+1)*+(b0a)*+(ab*)*)*b",
		"(ab0)*a+b(0*+a)*",
	} {
		d, e := regular.Det(2, text)
		if e != api.OK {
			t.Fatal(text, e)
		}
		texts(9, "ab", func(w string) {
			if is, _ := regular.Has(text, numbers(w)); is != accepts(d, numbers(w)) {
				t.Errorf("Det(2, %q) is %v: wrong at %q", text, d, w)
			}
		})
	}
}

func TestDetByHand(t *testing.T) {
	for _, x := range []struct {
		letters int
		text    string
		want    api.Det
	}{
		{2, "(a+b)*a", api.Det{Letters: 2, Next: [][]int{{1, 0}, {1, 0}}, Mark: []int{0, 1}}},
		{1, "0", api.Det{Letters: 1, Next: [][]int{{0}}, Mark: []int{0}}},
		{1, "1", api.Det{Letters: 1, Next: [][]int{{1}, {1}}, Mark: []int{1, 0}}},
		{1, "a*", api.Det{Letters: 1, Next: [][]int{{0}}, Mark: []int{1}}},
		{1, "(aa)*", api.Det{Letters: 1, Next: [][]int{{1}, {0}}, Mark: []int{1, 0}}},
		{4, "d", api.Det{Letters: 4, Next: [][]int{{1, 1, 1, 2}, {1, 1, 1, 1}, {1, 1, 1, 1}}, Mark: []int{0, 0, 1}}},
		{3, "(a+b+c)*", api.Det{Letters: 3, Next: [][]int{{0, 0, 0}}, Mark: []int{1}}},
		{3, "(a+b)*", api.Det{Letters: 3, Next: [][]int{{0, 0, 1}, {1, 1, 1}}, Mark: []int{1, 0}}},
	} {
		d, e := regular.Det(x.letters, x.text)
		if !reflect.DeepEqual(d, x.want) || e != api.OK {
			t.Errorf("Det(%d, %q) is %v, %v", x.letters, x.text, d, e)
		}
	}
}

// B3: the errors, in their order; and how many letters there may be.
func TestDetEdges(t *testing.T) {
	for _, x := range []struct {
		name    string
		letters int
		text    string
		states  int
		e       api.Errno
	}{
		{"no text", 1, "", 0, api.ErrSyntax},
		{"a text that is too deep", 1, nested(41, "a"), 0, api.ErrSyntax},
		{"a text that is too long", 1, strings.Repeat("1", 4001), 0, api.ErrSyntax},
		{"the text ahead of the letters", 0, "a)", 0, api.ErrSyntax},
		{"no letters", 0, "1", 0, api.ErrRange},
		{"letters below 0", -1, "a", 0, api.ErrRange},
		{"five letters", 5, "a", 0, api.ErrRange},
		{"a letter that is none of these", 1, "b", 0, api.ErrRange},
		{"the last letter that is none of these", 3, "abcd", 0, api.ErrRange},
		{"a letter that is none, where no word is", 2, "0c", 0, api.ErrRange},
		{"letters ahead of how many", 5, strings.Repeat("a", 11), 0, api.ErrRange},
		{"a letter ahead of how many", 1, strings.Repeat("a", 11) + "b", 0, api.ErrRange},
		{"ten letters", 1, strings.Repeat("a", 10), 12, api.OK},
		{"eleven", 1, strings.Repeat("a", 11), 0, api.ErrFull},
		{"eleven, where no word is", 1, "0" + strings.Repeat("a", 11), 0, api.ErrFull},
		{"eleven that are the same", 1, strings.Repeat("a+", 10) + "a", 0, api.ErrFull},
		{"ten of four kinds", 4, "abcdabcdab", 12, api.OK},
		{"eleven of four kinds", 4, "abcdabcdabc", 0, api.ErrFull},
		{"a text as long as may be", 1, strings.Repeat("(1+0*)", 665) + strings.Repeat("a", 10), 12, api.OK},
		{"stars as deep as may be", 2, strings.Repeat("(", 40) + "a" + strings.Repeat(")*", 40) + "b", 3, api.OK},
		{"many states", 4, "(a+b)*a(a+b)(a+b)(a+b)1", 17, api.OK},
	} {
		d, e := regular.Det(x.letters, x.text)
		if e != x.e || len(d.Next) != x.states || e != api.OK && !reflect.ValueOf(d).IsZero() {
			t.Errorf("%s: %d states, %v", x.name, len(d.Next), e)
		}
	}
}

// few calls see with automata of at most 3 states, of all of them one in so many.
func few(letters, states, each int, see func(api.Det)) {
	many := 1
	for range letters * states {
		many *= states
	}
	for x := 0; x < many; x += each {
		for marks := range 1 << states {
			d, y := api.Det{Letters: letters, Start: (x + marks) % states}, x
			for s := range states {
				row := make([]int, letters)
				for l := range row {
					row[l], y = y%states, y/states
				}
				d.Next = append(d.Next, row)
				d.Mark = append(d.Mark, marks>>s&1)
			}
			see(d)
		}
	}
}

// B4: held against Has.
func TestText(t *testing.T) {
	check := func(d api.Det) {
		t.Helper()
		s, e := regular.Text(d)
		if f := regular.Check(s); e != api.OK || f.Code != api.OK {
			t.Fatalf("Text of %v is %q, %v, %v", d, s, e, f)
		}
		texts(max(3, 6-d.Letters), "abcd"[:d.Letters], func(w string) {
			if is, e := regular.Has(s, numbers(w)); is != accepts(d, numbers(w)) || e != api.OK {
				t.Errorf("Text of %v is %q: wrong at %q", d, s, w)
			}
		})
		if is, _ := regular.Has(s, []int{3}); is && d.Letters < 4 {
			t.Errorf("Text of %v is %q: it has a letter too many", d, s)
		}
	}
	few(4, 1, 1, check)
	few(1, 3, 1, check)
	few(2, 2, 1, check)
	few(2, 3, 1, check)
	few(3, 3, 101, check)
	few(4, 3, 5003, check)
}

// B4: from a text to an automaton, to a text, to the same automaton.
func TestTextAndBack(t *testing.T) {
	back := 0
	for _, x := range some() {
		d, _ := regular.Det(2, x.text)
		s, e := regular.Text(d)
		if len(d.Next) > 3 {
			if s != "" || e != api.ErrSize {
				t.Errorf("Text of %v is %q, %v", d, s, e)
			}
			continue
		}
		if c, f := regular.Det(2, s); f != api.ErrFull {
			if !reflect.DeepEqual(c, d) || e != api.OK || f != api.OK {
				t.Errorf("Text of %v is %q, %v, and that of it %v, %v", d, s, e, c, f)
			}
			back++
		}
	}
	if back == 0 {
		t.Error("no text has few letters")
	}
}

// B4: what it refuses.
func TestTextRefuses(t *testing.T) {
	four := api.Det{Letters: 1, Next: [][]int{{0}, {0}, {0}, {0}}, Mark: []int{1, 1, 1, 1}}
	wrong := api.Det{Letters: 1, Next: [][]int{{0}, {0}, {0}, {4}}, Mark: []int{1, 1, 1, 1}}
	for _, x := range []struct {
		name string
		d    api.Det
		want api.Errno
	}{
		{"zero", api.Det{}, api.ErrRange},
		{"no states", api.Det{Letters: 1}, api.ErrSize},
		{"no marks", api.Det{Letters: 1, Next: [][]int{{0}}}, api.ErrShape},
		{"no start", api.Det{Letters: 1, Start: 1, Next: [][]int{{0}}, Mark: []int{0}}, api.ErrRange},
		{"four states, though one would do", four, api.ErrSize},
		{"what is wrong ahead of four states", wrong, api.ErrRange},
	} {
		if s, e := regular.Text(x.d); s != "" || e != x.want {
			t.Errorf("%s: %q, %v, not %v", x.name, s, e, x.want)
		}
	}
}

// P3: the automaton is left as it is.
func TestTextLeavesTheAutomaton(t *testing.T) {
	rows := [][]int{[]int{1, 2, 9}[:2], []int{0, 1, 9}[:2], []int{2, 2, 9}[:2], {7}}
	d := api.Det{Letters: 2, Start: 1, Next: rows[:3], Mark: []int{1, 0, 0, 9}[:3]}
	if _, e := regular.Text(d); e != api.OK {
		t.Error(e)
	}
	want := [][]int{{1, 2, 9}, {0, 1, 9}, {2, 2, 9}}
	for s, row := range d.Next {
		if !slices.Equal(row[:3], want[s]) {
			t.Error(s, row[:3])
		}
	}
	if d.Start != 1 || !slices.Equal(d.Mark[:4], []int{1, 0, 0, 9}) || !slices.Equal(rows[3], []int{7}) {
		t.Error(d, rows)
	}
}

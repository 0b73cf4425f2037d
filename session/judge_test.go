package session_test

import (
	"fmt"
	"regexp"
	"strings"
	"testing"

	"evermore/api"
	"evermore/det"
	"evermore/logic"
	"evermore/monoid"
	"evermore/regular"
	"evermore/time"
	"evermore/word"
)

// What a line must look like; a line that looks like none of these is no question.
var (
	single = regexp.MustCompile(`(?s)^(states|counts|formula|normal)( (.*))?$`)
	double = regexp.MustCompile(`(?s)^(has|first|true|holds) ([^ ]*) ([^ ]*)$`)
	plain  = regexp.MustCompile(`^[a-d]*$`)
	looped = regexp.MustCompile(`^([a-d]*)\(([a-d]*)\)$`)
)

// judged says what a line must be answered, by the words of O1 and O2.
func judged(line string) string {
	if m := single.FindStringSubmatch(line); m != nil {
		return judgedSingle(m[1], m[3])
	}
	if m := double.FindStringSubmatch(line); m != nil {
		return judgedDouble(m[1], m[2], m[3])
	}
	return "error syntax"
}

func judgedSingle(name, text string) string {
	switch name {
	case "states", "counts":
		if f := regular.Check(text); f != (api.Fault{}) {
			return fmt.Sprintf("error %v at %d", f.Code, f.At)
		}
		d, e := regular.Det(4, text)
		if e != api.OK {
			return fmt.Sprint("error ", e.Error())
		}
		if name == "states" {
			return fmt.Sprint(len(d.Mark))
		}
		w, times, counts, e := monoid.Counts(d)
		switch {
		case e != api.OK:
			return fmt.Sprint("error ", e.Error())
		case counts:
			return fmt.Sprintf("word %s times %d", spelt(w), times)
		}
		return "none"
	case "formula":
		if f := logic.Check(text); f != (api.Fault{}) {
			return fmt.Sprintf("error %v at %d", f.Code, f.At)
		}
		d, e := logic.Det(text)
		if e != api.OK {
			return fmt.Sprint("error ", e.Error())
		}
		return fmt.Sprint(len(d.Mark))
	}
	m := looped.FindStringSubmatch(text)
	if m == nil {
		return "error syntax"
	}
	l, e := word.Normal(api.Lasso{Head: numbers(m[1]), Loop: numbers(m[2])})
	if e != api.OK {
		return fmt.Sprint("error ", e.Error())
	}
	return fmt.Sprintf("%s(%s)", spelt(l.Head), spelt(l.Loop))
}

func judgedDouble(name, one, other string) string {
	if name == "first" {
		return judgedFirst(one, other)
	}
	check := map[string]func(string) api.Fault{"has": regular.Check, "true": logic.Check, "holds": time.Check}[name]
	if f := check(one); f != (api.Fault{}) {
		return fmt.Sprintf("error %v at %d", f.Code, f.At)
	}
	m := []string{other, other}
	form := plain
	if name == "holds" {
		form = looped
		m = looped.FindStringSubmatch(other)
	}
	if !form.MatchString(other) {
		return "error syntax"
	}
	var yes bool
	var e api.Errno
	switch name {
	case "has":
		yes, e = regular.Has(one, numbers(other))
	case "true":
		yes, e = logic.Holds(one, numbers(other))
	case "holds":
		yes, e = time.Holds(one, api.Lasso{Head: numbers(m[1]), Loop: numbers(m[2])})
	}
	if e != api.OK {
		return fmt.Sprint("error ", e.Error())
	}
	return map[bool]string{true: "yes", false: "no"}[yes]
}

func judgedFirst(one, other string) string {
	var made [2]api.Det
	for i, text := range []string{one, other} {
		if s := judgedSingle("states", text); strings.HasPrefix(s, "error") {
			return s
		}
		made[i], _ = regular.Det(4, text)
	}
	w, told, _ := det.Differ(made[0], made[1])
	if !told {
		return "same"
	}
	return "word " + spelt(w)
}

func spelt(w []int) string {
	s := ""
	for _, x := range w {
		s += "abcd"[x : x+1]
	}
	return s
}

func numbers(s string) []int {
	w := []int{}
	for _, r := range s {
		w = append(w, strings.IndexRune("abcd", r))
	}
	return w
}

type dice uint32

func (x *dice) roll(n int) int {
	*x = *x*1664525 + 1013904223
	return int(*x>>8) % n
}

func (x *dice) of(l []string) string { return l[x.roll(len(l))] }

// The judge itself: what the document's examples say.
func TestJudge(t *testing.T) {
	for line, want := range map[string]string{
		"states (a+b)*a":      "3",
		"has a*b aab":         "yes",
		"has a*b aaba":        "no",
		"first a* a+aa*":      "word ",
		"first a* 1+aa*":      "same",
		"holds GFp a(b)":      "yes",
		"normal ab(abab)":     "(ab)",
		"counts (aa)*":        "word a times 2",
		"has a  b":            "error syntax",
		"states":              "error syntax at 0",
		"true Exax c":         "error range",
		"first aaaaaaaaaaa +": "error full",
	} {
		if got := judged(line); got != want {
			t.Errorf("%q: %q, not %q", line, got, want)
		}
	}
}

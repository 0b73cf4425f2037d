package session

import (
	"strconv"

	"evermore/api"
	"evermore/det"
	"evermore/logic"
	"evermore/monoid"
	"evermore/regular"
	"evermore/time"
	"evermore/word"
)

func states(text string) string {
	d, wrong := automaton(text)
	if wrong != "" {
		return wrong
	}
	return strconv.Itoa(len(d.Next))
}

func counts(text string) string {
	d, wrong := automaton(text)
	if wrong != "" {
		return wrong
	}
	w, times, some, e := monoid.Counts(d)
	if e != api.OK {
		return refused(e)
	}
	if !some {
		return "none"
	}
	return "word " + letters(w) + " times " + strconv.Itoa(times)
}

// first is done with the one text, whatever is wrong with it, ahead of a look at the other.
func first(one, other string) string {
	a, wrong := automaton(one)
	if wrong != "" {
		return wrong
	}
	b, wrong := automaton(other)
	if wrong != "" {
		return wrong
	}
	w, some, e := det.Differ(a, b)
	if e != api.OK {
		return refused(e)
	}
	if !some {
		return "same"
	}
	return "word " + letters(w)
}

// automaton answers that of a text; or, if there is none, the line that says so.
func automaton(text string) (d api.Det, wrong string) {
	if f := regular.Check(text); f.Code != api.OK {
		return api.Det{}, faulty(f)
	}
	d, e := regular.Det(api.MaxLetters, text)
	if e != api.OK {
		return api.Det{}, refused(e)
	}
	return d, ""
}

func has(text, written string) string {
	if f := regular.Check(text); f.Code != api.OK {
		return faulty(f)
	}
	w, ok := wordOf(written)
	if !ok {
		return refused(api.ErrSyntax)
	}
	return yesOrNo(regular.Has(text, w))
}

func formula(text string) string {
	if f := logic.Check(text); f.Code != api.OK {
		return faulty(f)
	}
	d, e := logic.Det(text)
	if e != api.OK {
		return refused(e)
	}
	return strconv.Itoa(len(d.Next))
}

func isTrue(text, written string) string {
	if f := logic.Check(text); f.Code != api.OK {
		return faulty(f)
	}
	w, ok := wordOf(written)
	if !ok {
		return refused(api.ErrSyntax)
	}
	return yesOrNo(logic.Holds(text, w))
}

func holds(text, written string) string {
	if f := time.Check(text); f.Code != api.OK {
		return faulty(f)
	}
	l, ok := lassoOf(written)
	if !ok {
		return refused(api.ErrSyntax)
	}
	return yesOrNo(time.Holds(text, l))
}

func normal(written string) string {
	l, ok := lassoOf(written)
	if !ok {
		return refused(api.ErrSyntax)
	}
	l, e := word.Normal(l)
	if e != api.OK {
		return refused(e)
	}
	return letters(l.Head) + "(" + letters(l.Loop) + ")"
}

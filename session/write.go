package session

import (
	"strconv"
	"strings"

	"evermore/api"
)

// wordOf reads a word, of any length; false: it is not written so.
func wordOf(text string) ([]int, bool) {
	w := make([]int, len(text))
	for i := range len(text) {
		if text[i] < 'a' || text[i] > 'd' {
			return nil, false
		}
		w[i] = int(text[i] - 'a')
	}
	return w, true
}

// lassoOf reads a lasso, an empty loop too, which is for the calls to refuse; false: it is not written so.
func lassoOf(text string) (api.Lasso, bool) {
	head, rest, opened := strings.Cut(text, "(")
	loop, closed := strings.CutSuffix(rest, ")")
	if !opened || !closed {
		return api.Lasso{}, false
	}
	h, okHead := wordOf(head)
	l, okLoop := wordOf(loop)
	return api.Lasso{Head: h, Loop: l}, okHead && okLoop
}

func letters(w []int) string {
	out := make([]byte, len(w))
	for i, x := range w {
		out[i] = 'a' + byte(x)
	}
	return string(out)
}

func yesOrNo(yes bool, e api.Errno) string {
	switch {
	case e != api.OK:
		return refused(e)
	case yes:
		return "yes"
	}
	return "no"
}

func refused(e api.Errno) string {
	return "error " + e.Error()
}

func faulty(f api.Fault) string {
	return refused(f.Code) + " at " + strconv.Itoa(f.At)
}

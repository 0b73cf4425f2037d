package regular

import "evermore/api"

// A saying is a text, and how loose it is: what must be put into brackets depends on that.
type saying struct {
	text  string
	loose int
}

// From the tightest on: a part, a part with a star, a row, an either.
const (
	tight = iota
	starred
	inRow
	inEither
)

func none() saying  { return saying{"0", tight} }
func empty() saying { return saying{"1", tight} }

func (x saying) within(loose int) string {
	if x.loose <= loose {
		return x.text
	}
	return "(" + x.text + ")"
}

func (x saying) or(y saying) saying {
	switch {
	case x == none() || x == y:
		return y
	case y == none():
		return x
	}
	return saying{x.within(inEither) + "+" + y.within(inEither), inEither}
}

func (x saying) then(y saying) saying {
	switch {
	case x == none() || y == empty():
		return x
	case y == none() || x == empty():
		return y
	}
	return saying{x.within(inRow) + y.within(inRow), inRow}
}

func (x saying) again() saying {
	if x == none() || x == empty() {
		return empty()
	}
	return saying{x.within(tight) + "*", starred}
}

// ways say of the words that are accepted from one state on: that each is empty, if end says so, or one of
// leads[t] and one that is accepted from t on.
type ways struct {
	leads []saying
	end   saying
}

func waysOf(d api.Det, s int) ways {
	w := ways{leads: make([]saying, len(d.Next)), end: none()}
	for t := range w.leads {
		w.leads[t] = none()
	}
	for l, t := range d.Next[s] {
		w.leads[t] = w.leads[t].or(saying{"abcd"[l : l+1], tight})
	}
	if d.Mark[s] == 1 {
		w.end = empty()
	}
	return w
}

// written takes state by state away, the start, which is 0, at last: what leads to a state that is taken away
// leads to where that one does, by what comes back to it any number of times in between (Arden).
func written(d api.Det) string {
	all := make([]ways, len(d.Next))
	for s := range all {
		all[s] = waysOf(d, s)
	}
	for s := len(all) - 1; s > 0; s-- {
		gone := all[s]
		again := gone.leads[s].again()
		for t := range s {
			to := all[t].leads[s].then(again)
			for u := range s {
				all[t].leads[u] = all[t].leads[u].or(to.then(gone.leads[u]))
			}
			all[t].end = all[t].end.or(to.then(gone.end))
		}
	}
	return all[0].leads[0].again().then(all[0].end).text
}

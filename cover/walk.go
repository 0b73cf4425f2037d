package cover

import (
	"container/heap"
	"slices"

	"evermore/api"
)

// Ahead of the first stop there is none.
const nowhere = -1

// A stop is what a walker has come to: by a step, from another stop.
type stop struct {
	at         piles
	from, step int
}

// A walker goes by steps from stop to stop. Those that are above others it passes by: what can be come to from them,
// can be come to, or what is lower, from the others.
type walker struct {
	api.Heaps
	stops []stop
	floor floor
	line  line
}

// walk goes from start on by all steps, as next says, and answers the first stop that is enough, if there is one. That
// has an end. In each row without an end of what there is in heaps, one comes that is above an earlier one (Dickson),
// and no stop is. Of what they lack, one comes that is below an earlier one: so each way has an end, if that is enough,
// and with all ways the walk has one.
func (w *walker) walk(start piles, next func(x piles, step int) (piles, bool), enough func(end int) bool) int {
	if w.stopAt(stop{start, nowhere, nowhere}); enough(0) {
		return 0
	}
	for w.line.Len() > 0 {
		from := heap.Pop(&w.line).(waiting).stop
		if w.floor.hasOthersBelow(w.stops[from].at) {
			continue
		}
		for step := range w.Takes {
			x, can := next(w.stops[from].at, step)
			if end := len(w.stops); can && w.stopAt(stop{x, from, step}) && enough(end) {
				return end
			}
		}
	}
	return nowhere
}

// stopAt makes a stop, where it is not above another one.
func (w *walker) stopAt(s stop) bool {
	if w.floor.hasBelow(s.at) {
		return false
	}
	w.floor.put(s.at)
	heap.Push(&w.line, waiting{slices.Max(s.at[:w.Places]), s.at.sum(), len(w.stops)})
	w.stops = append(w.stops, s)
	return true
}

// ahead answers the least from which the step can be done, and leads to what covers x.
func (w *walker) ahead(x piles, step int) (piles, bool) {
	for i, gives := range w.Gives[step] {
		x[i] = max(x[i]-gives, 0) + w.Takes[step][i]
	}
	return x, true
}

// behind answers what the heaps lack behind a step, if it can be done where they lack x.
func (w *walker) behind(x piles, step int) (piles, bool) {
	for i, takes := range w.Takes[step] {
		if x[i]+takes > 0 {
			return piles{}, false
		}
		x[i] += takes - w.Gives[step][i]
	}
	return x, true
}

// startsAt tells of stops whether the state covers them.
func (w *walker) startsAt(state piles) func(end int) bool {
	return func(end int) bool { return state.above(w.stops[end].at) }
}

// grows tells whether the stop is below one on the way to it.
func (w *walker) grows(end int) bool { return w.outgrown(end) != nowhere }

// outgrown answers the last one on the way to the stop that the stop is below.
func (w *walker) outgrown(end int) int {
	s := w.stops[end].from
	for s != nowhere && !w.stops[s].at.above(w.stops[end].at) {
		s = w.stops[s].from
	}
	return s
}

// steps answers those from the one stop to the other, the last one first.
func (w *walker) steps(end, from int) []int {
	var out []int
	for s := end; s != from; s = w.stops[s].from {
		out = append(out, w.stops[s].step)
	}
	return out
}

func forwards(steps []int) []int {
	slices.Reverse(steps)
	return steps
}

// lowest answers the stops that are not above others.
func (w *walker) lowest() [][]int {
	var out [][]int
	for _, s := range w.stops {
		if !w.floor.hasOthersBelow(s.at) {
			out = append(out, w.row(s.at))
		}
	}
	return out
}

func (w *walker) row(x piles) []int { return slices.Clone(x[:w.Places]) }

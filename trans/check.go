package trans

import (
	"iter"

	"evermore/api"
)

func isMany(letters int) bool { return 1 <= letters && letters <= api.MaxLetters }

func shaped(t api.Trans) bool {
	if len(t.Says) != len(t.Next) || len(t.Last) != len(t.Next) {
		return false
	}
	for s := range t.Next {
		if len(t.Next[s]) != t.In || len(t.Says[s]) != t.In {
			return false
		}
	}
	return true
}

func leadsWithin(t api.Trans) bool {
	for _, row := range t.Next {
		for _, s := range row {
			if !isState(t, s) {
				return false
			}
		}
	}
	return isState(t, t.Start)
}

func isState(t api.Trans, s int) bool { return 0 <= s && s < len(t.Next) }

// sayings goes through all that is said at once.
func sayings(t api.Trans) iter.Seq[[]int] {
	return func(yield func([]int) bool) {
		if !yield(t.First) {
			return
		}
		for s, row := range t.Says {
			for _, x := range row {
				if !yield(x) {
					return
				}
			}
			if !yield(t.Last[s]) {
				return
			}
		}
	}
}

func saysLittle(t api.Trans) bool {
	for x := range sayings(t) {
		if len(x) > api.MaxSay {
			return false
		}
	}
	return true
}

func saysLetters(t api.Trans) bool {
	for x := range sayings(t) {
		for _, l := range x {
			if l < 0 || l >= t.Out {
				return false
			}
		}
	}
	return true
}

package same

import (
	"cmp"

	"evermore/api"
)

// Kinds of parts of a saying.
const (
	everywhere = iota
	elsewhere  // where part A is not
	across     // where an arrow leads to a place at which A is
	both
)

// below tells whether all numbers are from 0 on, and less than bound.
func below(bound int, numbers ...int) bool {
	for _, x := range numbers {
		if x < 0 || x >= bound {
			return false
		}
	}
	return true
}

func rise(arrows []api.Arrow) bool {
	for i := 1; i < len(arrows); i++ {
		a, b := arrows[i-1], arrows[i]
		if cmp.Or(cmp.Compare(a.From, b.From), cmp.Compare(a.Letter, b.Letter), cmp.Compare(a.To, b.To)) >= 0 {
			return false
		}
	}
	return true
}

// checkPart tells what is wrong with a part that has so many ahead of it.
func checkPart(s api.Say, ahead int) api.Errno {
	letters, a, b := 1, 1, 1 // bounds: what a kind does not have is 0
	switch s.Kind {
	case everywhere:
	case elsewhere:
		a = ahead
	case across:
		letters, a = api.MaxLetters, ahead
	case both:
		a, b = ahead, ahead
	default:
		return api.ErrShape
	}
	if !below(a, s.A) || !below(b, s.B) || !below(letters, s.Letter) {
		return api.ErrRange
	}
	return api.OK
}

package gram

import "evermore/api"

// Limits of this chapter alone.
const (
	maxTo     = 3    // signs that a name becomes
	maxWay    = 2000 // rules one behind the other
	maxTold   = 12   // letters of a word that is asked about
	maxStates = 4    // of an automaton
	maxMany   = 5    // letters of words that are counted
)

func checkRule(g api.Grammar, m api.Make) api.Errno {
	if m.From < 0 || m.From >= g.Names {
		return api.ErrRange
	}
	if len(m.To) > maxTo {
		return api.ErrSize
	}
	for _, sign := range m.To {
		if sign < 0 || sign >= g.Letters+g.Names {
			return api.ErrRange
		}
	}
	return api.OK
}

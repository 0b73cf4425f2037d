package gram

import "evermore/api"

// A use knows what names are good for.
type use struct {
	api.Grammar
	finds
	leads [api.MaxNames][api.MaxNames]bool // from a name to all that are met from it on, itself with them
}

func useOf(g api.Grammar) use {
	u := use{Grammar: g, finds: find(g, alongMore(), lettersUpTo(0))}
	for n := range g.Names {
		u.leads[n][n] = true
	}
	for _, m := range g.Makes {
		for _, sign := range m.To {
			if u.isName(sign) && u.allEnd(m.To) {
				u.leads[m.From][sign-g.Letters] = true
			}
		}
	}
	for by := range g.Names {
		for from := range g.Names {
			for to := range g.Names {
				u.leads[from][to] = u.leads[from][to] || u.leads[from][by] && u.leads[by][to]
			}
		}
	}
	return u
}

func (u use) isName(sign int) bool { return sign >= u.Letters }

func (u use) has(p piece) bool {
	_, known := u.finds[p]
	return known
}

// isMore tells whether one comes from a sign to a word of some letters.
func (u use) isMore(sign int) bool {
	return !u.isName(sign) || u.has(piece{sign - u.Letters, 0, 1})
}

// ends tells whether one comes from a sign to some word.
func (u use) ends(sign int) bool {
	return u.isMore(sign) || u.has(piece{sign - u.Letters, 0, 0})
}

func (u use) allEnd(signs []int) bool {
	for _, sign := range signs {
		if !u.ends(sign) {
			return false
		}
	}
	return true
}

// met leans on this: leads goes by rules alone all of whose signs end, so what stands beside the name ends as well.
func (u use) met(name int) bool { return u.ends(u.Letters) && u.leads[0][name] }

// endless tells whether some name that is met comes to itself again with letters beside it. Where none does, what lies
// between a name and itself adds nothing to a word, and trees without such have an end.
func (u use) endless() bool {
	for _, m := range u.Makes {
		for i, sign := range m.To {
			if u.isName(sign) && u.leads[sign-u.Letters][m.From] && u.met(m.From) && u.allEnd(m.To) && u.moreBeside(m.To, i) {
				return true
			}
		}
	}
	return false
}

func (u use) moreBeside(signs []int, at int) bool {
	for i, sign := range signs {
		if i != at && u.isMore(sign) {
			return true
		}
	}
	return false
}

func bit(is bool) int {
	if is {
		return 1
	}
	return 0
}

package regular

import (
	"math/bits"

	"evermore/api"
)

// A set of places of a text at which letters stand, a bit each.
type set uint16

// The place ahead of all letters has its bit behind theirs.
const ahead = set(1) << api.MaxPlaces

// places say where one can be in a text, behind a letter of a word (Glushkov).
type places struct {
	many   int
	of     [api.MaxLetters]set    // at which places each letter stands
	behind [api.MaxPlaces + 1]set // which places can come behind each
	last   set                    // with which places a word can end
}

// reach says of a part of a text with which places its words can begin and end, and whether one of them is empty.
type reach struct {
	first, last set
	empty       bool
}

// placesOf takes a text with at most MaxPlaces letters.
func placesOf(whole part) *places {
	p := &places{}
	r := p.add(whole)
	p.follow(ahead, r.first)
	p.last = r.last
	if r.empty {
		p.last |= ahead
	}
	return p
}

func (p *places) add(x part) reach {
	switch x := x.(type) {
	case letter:
		return p.addLetter(int(x))
	case either:
		return p.addEither(x)
	case row:
		return p.addRow(x)
	case star:
		r := p.add(x.of)
		p.follow(r.last, r.first)
		return reach{r.first, r.last, true}
	}
	return reach{}
}

func (p *places) addLetter(l int) reach {
	here := set(1) << p.many
	p.many++
	p.of[l] |= here
	return reach{here, here, false}
}

func (p *places) addEither(all either) reach {
	out := reach{}
	for _, x := range all {
		r := p.add(x)
		out.first |= r.first
		out.last |= r.last
		out.empty = out.empty || r.empty
	}
	return out
}

func (p *places) addRow(all row) reach {
	out := reach{empty: true}
	for _, x := range all {
		r := p.add(x)
		p.follow(out.last, r.first)
		if out.empty {
			out.first |= r.first
		}
		if r.empty {
			out.last |= r.last
		} else {
			out.last = r.last
		}
		out.empty = out.empty && r.empty
	}
	return out
}

// follow says that each of some places can come behind each of others.
func (p *places) follow(these, those set) {
	for ; these != 0; these &= these - 1 {
		p.behind[bits.TrailingZeros16(uint16(these))] |= those
	}
}

func (p *places) next(at set, l int) set {
	out := set(0)
	for ; at != 0; at &= at - 1 {
		out |= p.behind[bits.TrailingZeros16(uint16(at))]
	}
	return out & p.of[l]
}

func (p *places) ends(at set) bool {
	return at&p.last != 0
}

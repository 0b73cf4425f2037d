package same

import "evermore/api"

// where answers the places at which a saying is so, a bit for each.
func where(g api.Graph, l []api.Say) uint {
	all := uint(1)<<g.Places - 1
	so := make([]uint, len(l))
	for i, s := range l {
		switch s.Kind {
		case everywhere:
			so[i] = all
		case elsewhere:
			so[i] = all &^ so[s.A]
		case across:
			so[i] = before(g, s.Letter, so[s.A])
		case both:
			so[i] = so[s.A] & so[s.B]
		}
	}
	return so[len(l)-1]
}

// before answers the places from which an arrow by a letter leads to one of those.
func before(g api.Graph, letter int, places uint) uint {
	var out uint
	for _, a := range g.Arrows {
		if a.Letter == letter && places>>a.To&1 == 1 {
			out |= 1 << a.From
		}
	}
	return out
}

package same

import "evermore/api"

// A teller puts a saying together. Of each pair that it has told apart it knows the part that does so: else the saying
// could come to have more parts than may be. So it has at most 13 for each of 132 pairs.
type teller struct {
	table
	parts []api.Say
	known map[[2]int]int
}

func (t *teller) add(s api.Say) int {
	t.parts = append(t.parts, s)
	return len(t.parts) - 1
}

// apart answers a part that is so at p and not at q, which do not stand in the table. It has an end: by what put them
// out, all pairs that it comes to were put out ahead of them.
func (t *teller) apart(p, q int) int {
	pair := [2]int{p, q}
	if part, is := t.known[pair]; is {
		return part
	}
	a := t.Arrows[t.out[p][q]]
	if a.From == p {
		t.known[pair] = t.leads(a, q)
	} else {
		t.known[pair] = t.add(api.Say{Kind: elsewhere, A: t.leads(a, p)})
	}
	return t.known[pair]
}

// leads answers a part that is so where the arrow is from, and not at a place that does not answer it.
func (t *teller) leads(a api.Arrow, place int) int {
	var parts []int
	for _, b := range t.Arrows {
		if b.From == place && b.Letter == a.Letter {
			parts = append(parts, t.apart(a.To, b.To))
		}
	}
	return t.add(api.Say{Kind: across, Letter: a.Letter, A: t.all(parts)})
}

// all answers a part that is so where all of those are.
func (t *teller) all(parts []int) int {
	if len(parts) == 0 {
		return t.add(api.Say{Kind: everywhere})
	}
	whole := parts[0]
	for _, part := range parts[1:] {
		whole = t.add(api.Say{Kind: both, A: whole, B: part})
	}
	return whole
}

package gram

import "evermore/api"

// A letter of a short word takes two bits, as there are no more than four of them.
const letterBits = 2

// Words of at most maxMany letters, by how many they have. A word is a number: a bit ahead, which tells the words of
// unlike lengths apart, then its letters.
type words struct {
	has [1 << (letterBits*maxMany + 1)]bool
	by  [maxMany + 1][]int
}

const noLetters = 1

func behind(v, w, long int) int {
	bits := letterBits * long
	return v<<bits | w&(1<<bits-1)
}

type shorts struct {
	api.Grammar
	most int
	told []words // of each name
}

// shortWords answers, of each name, all words of at most so many letters to which one comes from it.
func shortWords(g api.Grammar, most int) []words {
	s := shorts{g, most, make([]words, g.Names)}
	for s.grow() {
	}
	return s.told
}

// grow does each rule with the words that are known yet, and tells whether one is new.
func (s *shorts) grow() bool {
	grew := false
	for _, m := range s.Makes {
		told := &s.told[m.From]
		s.lead(m.To, 0, noLetters, func(long, word int) {
			if !told.has[word] {
				told.has[word], grew = true, true
				told.by[long] = append(told.by[long], word)
			}
		})
	}
	return grew
}

// lead goes on by then with each word to which one comes from signs, behind one that is there already.
func (s *shorts) lead(signs []int, long, word int, then func(long, word int)) {
	if len(signs) == 0 {
		then(long, word)
		return
	}
	s.over(signs[0], s.most-long, func(more, part int) {
		s.lead(signs[1:], long+more, behind(word, part, more), then)
	})
}

func (s *shorts) over(sign, room int, then func(long, word int)) {
	if sign >= s.Letters {
		for long := range room + 1 {
			for _, w := range s.told[sign-s.Letters].by[long] {
				then(long, w)
			}
		}
	} else if room > 0 {
		then(1, sign)
	}
}

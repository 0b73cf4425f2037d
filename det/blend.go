package det

import "evermore/api"

// Blend is Mixed of two automata that the program made itself, over however many letters, as many of the one as
// of the other, and with however many states.
func Blend(a, b api.Det, table int) api.Det {
	next := func(s [2]int, l int) [2]int {
		return [2]int{a.Next[s[0]][l], b.Next[s[1]][l]}
	}
	mark := func(s [2]int) bool {
		return table>>(2*a.Mark[s[0]]+b.Mark[s[1]])&1 == 1
	}
	return Fewest(Of(a.Letters, [2]int{a.Start, b.Start}, next, mark))
}

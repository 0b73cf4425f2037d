package stack

import "evermore/api"

// Limits of this chapter alone.
const (
	maxRules = 8
	maxPut   = 2
	maxGoal  = 3    // signs of a goal's stack
	maxWay   = 2000 // rules one behind the other
)

// There are as many controls as signs.
func isOne(x int) bool { return 0 <= x && x < api.MaxStack }

func allOnes(list []int) bool {
	for _, x := range list {
		if !isOne(x) {
			return false
		}
	}
	return true
}

func putsWithin(l []api.Push) bool {
	for _, r := range l {
		if len(r.Put) > maxPut {
			return false
		}
	}
	return true
}

func numbersWithin(l []api.Push) bool {
	for _, r := range l {
		if !isOne(r.From) || !isOne(r.Top) || !isOne(r.To) || !allOnes(r.Put) {
			return false
		}
	}
	return true
}

// checkAll tells what is wrong with rules, then with configs, one after the other.
func checkAll(l []api.Push, configs ...api.Config) api.Errno {
	if e := Check(l); e != api.OK {
		return e
	}
	for _, c := range configs {
		if len(c.Stack) > api.MaxDeep {
			return api.ErrSize
		}
		if !isOne(c.Control) || !allOnes(c.Stack) {
			return api.ErrRange
		}
	}
	return api.OK
}

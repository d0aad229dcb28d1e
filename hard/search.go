package hard

import "tapeworks/api"

// smallest returns the lexicographically smallest list of increasing numbers less than n that is a solution. It builds lists up from the empty one: may tells whether a number greater than the chosen ones may follow them, and must allow it on the way to a solution.
func smallest(n int, may func(chosen, next int) bool, isSolution func(chosen int) bool) ([]int, api.Errno) {
	var grow func(list []int, chosen, from int) ([]int, bool)
	grow = func(list []int, chosen, from int) ([]int, bool) {
		// A list comes before those that it begins.
		if isSolution(chosen) {
			return list, true
		}
		for next := from; next < n; next++ {
			if !may(chosen, next) {
				continue
			}
			if found, ok := grow(append(list, next), chosen|1<<next, next+1); ok {
				return found, true
			}
		}
		return nil, false
	}
	list, ok := grow(nil, 0, 0)
	if !ok {
		return nil, api.ErrNone
	}
	return list, api.OK
}

// neighbors returns for each vertex the set of those to which an edge joins it.
func neighbors(n int, lines [][2]int) []int {
	joined := make([]int, n)
	for _, line := range lines {
		a, b := line[0], line[1]
		joined[a] |= 1 << b
		joined[b] |= 1 << a
	}
	return joined
}

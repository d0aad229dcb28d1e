package hard

import "tapeworks/api"

// checkClauses validates clauses with up to three literals.
func checkClauses(vars int, l []api.Clause) api.Errno {
	if vars < 0 || vars > api.MaxVars || len(l) > api.MaxCls {
		return api.ErrLarge
	}
	for _, c := range l {
		if len(c.Yes)+len(c.No) > mostLiterals {
			return api.ErrLarge
		}
	}
	for _, one := range literals(l) {
		if one.variable < 0 || one.variable >= vars {
			return api.ErrArg
		}
	}
	return api.OK
}

// checkGraph validates a graph of n vertices, and the number of vertices to choose.
func checkGraph(n int, lines [][2]int, k int) api.Errno {
	if n < 0 || n > api.MaxDot || len(lines) > api.MaxMade {
		return api.ErrLarge
	}
	for _, line := range lines {
		if min(line[0], line[1]) < 0 || max(line[0], line[1]) >= n {
			return api.ErrArg
		}
	}
	for _, line := range lines {
		if line[0] == line[1] {
			return api.ErrForm
		}
	}
	if k < 0 || k > n {
		return api.ErrRange
	}
	return api.OK
}

func checkWeights(weights []int) api.Errno {
	if len(weights) > api.MaxDot {
		return api.ErrLarge
	}
	for _, w := range weights {
		if w < 0 || w > api.MaxWeigh {
			return api.ErrRange
		}
	}
	return api.OK
}

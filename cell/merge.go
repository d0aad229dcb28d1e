package cell

// pairs is the number of pairs of windows at the same place of two rows. A pair is a number: windows times the first one, plus the second one.
const pairs = windows * windows

// canMerge tells whether two different rows become equal in one step. They do if a path of pairs without end on either side passes through a pair of different windows.
func canMerge(rule int) bool {
	toRight := endless(func(from, to int) bool { return leads(rule, from, to) })
	toLeft := endless(func(from, to int) bool { return leads(rule, to, from) })
	for pair := range pairs {
		differs := pair/windows != pair%windows
		if differs && toRight[pair] && toLeft[pair] {
			return true
		}
	}
	return false
}

// endless tells from which pairs paths without end start, if each step of them goes where it is allowed to go.
func endless(allowed func(from, to int) bool) [pairs]bool {
	var visited, goesOn [pairs]bool
	var explore func(from int) bool
	explore = func(from int) bool {
		if visited[from] {
			return goesOn[from]
		}
		// Until all ways on from a pair have failed, it counts as endless: a path that meets it again has closed a round.
		visited[from], goesOn[from] = true, true
		for to := range pairs {
			if allowed(from, to) && explore(to) {
				return true
			}
		}
		goesOn[from] = false
		return false
	}
	for pair := range pairs {
		explore(pair)
	}
	return goesOn
}

// leads tells whether the pair to can stand one place to the right of the pair from, with both rows becoming equal between them.
func leads(rule, from, to int) bool {
	first, second := from/windows, from%windows
	nextFirst, nextSecond := to/windows, to%windows
	if !overlap(first, nextFirst) || !overlap(second, nextSecond) {
		return false
	}
	return becomes(rule, 2*first+nextFirst%2) == becomes(rule, 2*second+nextSecond%2)
}

// overlap tells whether the last cell of a window is the first cell of the next one.
func overlap(window, next int) bool {
	return window%2 == next/2
}

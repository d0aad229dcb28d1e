package cell

import "slices"

// sets is the number of sets of windows; the last of them has all windows.
const sets = 1 << windows

// reached is a word, with the set of windows in which its predecessors can end.
type reached struct {
	set  int
	word []bool
}

// findOrphan returns the first word without predecessors, in order of length and then lexicographically, if there is one.
func findOrphan(rule int) ([]bool, bool) {
	var visited [sets]bool
	visited[sets-1] = true
	// Words wait in their order. A word whose set was visited is dropped: whatever goes on from it goes on from an earlier word as well.
	queue := []reached{{set: sets - 1}}
	for len(queue) > 0 {
		now := queue[0]
		queue = queue[1:]
		for _, cell := range [2]bool{false, true} {
			set := ends(rule, now.set, cell)
			word := append(slices.Clone(now.word), cell)
			if set == 0 {
				return word, true
			}
			if !visited[set] {
				visited[set] = true
				queue = append(queue, reached{set, word})
			}
		}
	}
	return nil, false
}

// ends returns the set of windows in which predecessors can end once the word is longer by a cell.
func ends(rule, set int, cell bool) int {
	next := 0
	for neighborhood := range 2 * windows {
		if set>>(neighborhood/2)&1 == 1 && becomes(rule, neighborhood) == cell {
			next |= 1 << (neighborhood % windows)
		}
	}
	return next
}

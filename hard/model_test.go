package hard_test

import (
	"slices"
	"testing"

	"tapeworks/api"
)

func yes(list ...int) api.Clause {
	return api.Clause{Yes: list}
}

func no(list ...int) api.Clause {
	return api.Clause{No: list}
}

// some is the clause with the given lists.
func some(yes, no []int) api.Clause {
	return api.Clause{Yes: yes, No: no}
}

// dice is a sequence of numbers that is the same in every run.
type dice struct{ state uint64 }

// below returns a number less than n.
func (d *dice) below(n int) int {
	d.state = d.state*6364136223846793005 + 1442695040888963407
	return int(d.state>>40) % n
}

// clause returns a clause of so many literals, of which some may be the same.
func (d *dice) clause(vars, length int) api.Clause {
	var c api.Clause
	for range length {
		if d.below(2) == 0 {
			c.Yes = append(c.Yes, d.below(vars))
		} else {
			c.No = append(c.No, d.below(vars))
		}
	}
	return c
}

// clauses returns so many clauses of up to three literals, few of them empty.
func (d *dice) clauses(vars, number int) []api.Clause {
	var l []api.Clause
	for range number {
		length := 1 + d.below(3)
		if vars == 0 || d.below(30) == 0 {
			length = 0
		}
		l = append(l, d.clause(vars, length))
	}
	return l
}

// graph returns so many edges in any order and direction, some of them more than once.
func (d *dice) graph(n, edges int) [][2]int {
	var lines [][2]int
	for len(lines) < edges {
		a, b := d.below(n), d.below(n)
		if a != b {
			lines = append(lines, [2]int{a, b})
		}
	}
	return lines
}

// elements returns the elements of a set.
func elements(set int) []int {
	var list []int
	for i := 0; set>>i != 0; i++ {
		if set>>i&1 == 1 {
			list = append(list, i)
		}
	}
	return list
}

// smallest returns the lexicographically smallest list of numbers less than n that is a solution, by looking at all of them.
func smallest(n int, isSolution func(list []int) bool) ([]int, bool) {
	var best []int
	found := false
	for set := range 1 << n {
		list := elements(set)
		if isSolution(list) && (!found || slices.Compare(list, best) < 0) {
			best, found = list, true
		}
	}
	return best, found
}

// isFree tells whether no edge joins two vertices of a list.
func isFree(lines [][2]int, list []int) bool {
	return !slices.ContainsFunc(lines, func(line [2]int) bool {
		return slices.Contains(list, line[0]) && slices.Contains(list, line[1])
	})
}

// isCover tells whether every edge has a vertex of a list.
func isCover(lines [][2]int, list []int) bool {
	return !slices.ContainsFunc(lines, func(line [2]int) bool {
		return !slices.Contains(list, line[0]) && !slices.Contains(list, line[1])
	})
}

// sumOf adds up the weights with the given indexes.
func sumOf(weights, list []int) int {
	sum := 0
	for _, i := range list {
		sum += weights[i]
	}
	return sum
}

// canSum tells which sums the weights have.
func canSum(weights []int) map[int]bool {
	sums := map[int]bool{0: true}
	for _, w := range weights {
		next := map[int]bool{}
		for s := range sums {
			next[s], next[s+w] = true, true
		}
		sums = next
	}
	return sums
}

// isSatisfiable tries all sets of true variables.
func isSatisfiable(vars int, l []api.Clause) bool {
	for set := range 1 << vars {
		fails := func(c api.Clause) bool {
			isTrue := func(v int) bool { return set>>v&1 == 1 }
			isFalse := func(v int) bool { return set>>v&1 == 0 }
			return !slices.ContainsFunc(c.Yes, isTrue) && !slices.ContainsFunc(c.No, isFalse)
		}
		if !slices.ContainsFunc(l, fails) {
			return true
		}
	}
	return false
}

// modelDots gives each vertex a name that tells its clause, its list and its variable, and joins those that the chapter joins.
func modelDots(l []api.Clause) (int, [][2]int) {
	var clause, side, variable []int
	for i, c := range l {
		for s, list := range [][]int{c.Yes, c.No} {
			for _, v := range list {
				clause, side, variable = append(clause, i), append(side, s), append(variable, v)
			}
		}
	}
	var lines [][2]int
	for b := range clause {
		for a := range b {
			if clause[a] == clause[b] || side[a]+side[b] == 1 && variable[a] == variable[b] {
				lines = append(lines, [2]int{a, b})
			}
		}
	}
	slices.SortFunc(lines, func(one, other [2]int) int { return slices.Compare(one[:], other[:]) })
	return len(clause), lines
}

// copyOf returns clauses that share no memory with the given ones.
func copyOf(l []api.Clause) []api.Clause {
	var own []api.Clause
	for _, c := range l {
		own = append(own, some(slices.Clone(c.Yes), slices.Clone(c.No)))
	}
	return own
}

// areSame tells whether clauses have the same elements in the same order.
func areSame(one, other []api.Clause) bool {
	return slices.EqualFunc(one, other, func(a, b api.Clause) bool {
		return slices.Equal(a.Yes, b.Yes) && slices.Equal(a.No, b.No)
	})
}

// hide returns clauses in lists with wrong elements beyond their lengths, and a wrong clause beyond the last.
func hide(l []api.Clause) []api.Clause {
	var own []api.Clause
	for _, c := range l {
		yes, no := append(slices.Clone(c.Yes), -9), append(slices.Clone(c.No), 999)
		own = append(own, some(yes[:len(c.Yes)], no[:len(c.No)]))
	}
	return append(own, yes(-7))[:len(l)]
}

// isHidden tells whether the elements that hide has put beyond the lengths are still there.
func isHidden(l []api.Clause) bool {
	for _, c := range l {
		if c.Yes[:len(c.Yes)+1][len(c.Yes)] != -9 || c.No[:len(c.No)+1][len(c.No)] != 999 {
			return false
		}
	}
	return areSame(l[:len(l)+1][len(l):], []api.Clause{yes(-7)})
}

// expectList wants a function to have found a list, or that there is none.
func expectList(t *testing.T, label string, got []int, e api.Errno, want []int, exists bool) {
	t.Helper()
	wantError := api.OK
	if !exists {
		wantError = api.ErrNone
	}
	if e != wantError || !slices.Equal(got, want) {
		t.Fatalf("%s: %v, error %d; want %v, error %d", label, got, e, want, wantError)
	}
}

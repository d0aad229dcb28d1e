package name_test

import (
	"iter"
	"slices"
	"testing"

	"tapeworks/api"
)

func yes(list ...int) api.Clause {
	return api.Clause{Yes: list}
}

func no(list ...int) api.Clause {
	return api.Clause{No: list}
}

// some is the clause with the given lists.
func some(yes, no []int) api.Clause {
	return api.Clause{Yes: yes, No: no}
}

func input(number int) api.Gate { return api.Gate{Kind: api.GIn, A: number} }
func not(a int) api.Gate        { return api.Gate{Kind: api.GNot, A: a} }
func and(a, b int) api.Gate     { return api.Gate{Kind: api.GAnd, A: a, B: b} }
func or(a, b int) api.Gate      { return api.Gate{Kind: api.GOr, A: a, B: b} }

// elements returns the elements of a set.
func elements(set int) []int {
	var list []int
	for i := 0; set>>i != 0; i++ {
		if set>>i&1 == 1 {
			list = append(list, i)
		}
	}
	return list
}

// haveOf returns the values of a set of variables.
func haveOf(vars, set int) []bool {
	have := make([]bool, vars)
	for _, v := range elements(set) {
		have[v] = true
	}
	return have
}

// modelTrue looks for a clause all of whose literals are false.
func modelTrue(l []api.Clause, have []bool) bool {
	return !slices.ContainsFunc(l, func(c api.Clause) bool {
		isTrue := func(v int) bool { return have[v] }
		isFalse := func(v int) bool { return !have[v] }
		return !slices.ContainsFunc(c.Yes, isTrue) && !slices.ContainsFunc(c.No, isFalse)
	})
}

// solutions appends to have, in all ways that leave no clause without hope, the values of the variables that it lacks. It returns how many ways there are, but stops at most ways.
func solutions(vars int, l []api.Clause, have []bool, most int) int {
	// A clause is decided once the greatest of its variables has a value.
	for _, c := range l {
		if slices.Max(slices.Concat(c.Yes, c.No, []int{-1})) < len(have) && !modelTrue([]api.Clause{c}, have) {
			return 0
		}
	}
	if len(have) == vars {
		return 1
	}
	ways := 0
	for _, value := range []bool{false, true} {
		if ways < most {
			ways += solutions(vars, l, append(slices.Clip(have), value), most-ways)
		}
	}
	return ways
}

// extend yields all circuits with so many gates that begin with the given ones.
func extend(in, gates int, begin []api.Gate, yield func([]api.Gate) bool) bool {
	if len(begin) == gates {
		return yield(begin)
	}
	var next []api.Gate
	for i := range in {
		next = append(next, input(i))
	}
	for a := range begin {
		next = append(next, not(a))
		for b := range begin {
			next = append(next, and(a, b), or(a, b))
		}
	}
	for _, g := range next {
		if !extend(in, gates, append(slices.Clip(begin), g), yield) {
			return false
		}
	}
	return true
}

// circuits yields all circuits with so many gates. The yielded lists share memory.
func circuits(in, gates int) iter.Seq[[]api.Gate] {
	return func(yield func([]api.Gate) bool) {
		extend(in, gates, nil, yield)
	}
}

// modelValue follows the references of a gate down to the inputs.
func modelValue(l []api.Gate, number, set int) bool {
	g := l[number]
	switch g.Kind {
	case api.GIn:
		return set>>g.A&1 == 1
	case api.GNot:
		return !modelValue(l, g.A, set)
	case api.GAnd:
		return modelValue(l, g.A, set) && modelValue(l, g.B, set)
	}
	return modelValue(l, g.A, set) || modelValue(l, g.B, set)
}

// dice is a sequence of numbers that is the same in every run.
type dice struct{ state uint64 }

// below returns a number less than n.
func (d *dice) below(n int) int {
	d.state = d.state*6364136223846793005 + 1442695040888963407
	return int(d.state>>40) % n
}

// list returns so many variables, in any order, and some of them more than once.
func (d *dice) list(vars, length int) []int {
	list := make([]int, length)
	for i := range list {
		list[i] = d.below(vars)
	}
	return list
}

// clauses returns so many clauses with up to the given number of elements in each list.
func (d *dice) clauses(vars, number, most int) []api.Clause {
	l := make([]api.Clause, number)
	for i := range l {
		l[i] = some(d.list(vars, d.below(most+1)), d.list(vars, d.below(most+1)))
	}
	return l
}

// circuit returns a circuit whose gates refer to any preceding gates, or, if near is set, to the last few, which makes it deep.
func (d *dice) circuit(in, gates int, near bool) []api.Gate {
	var l []api.Gate
	for len(l) < gates {
		before := len(l)
		if before == 0 || d.below(4) == 0 {
			l = append(l, input(d.below(in)))
			continue
		}
		pick := func() int {
			if near {
				return before - 1 - d.below(min(before, 3))
			}
			return d.below(before)
		}
		l = append(l, api.Gate{Kind: api.GNot + d.below(3), A: pick(), B: pick()})
	}
	return l
}

// copyOf returns clauses that share no memory with the given ones.
func copyOf(l []api.Clause) []api.Clause {
	var own []api.Clause
	for _, c := range l {
		own = append(own, some(slices.Clone(c.Yes), slices.Clone(c.No)))
	}
	return own
}

// areSame tells whether clauses have the same elements in the same order.
func areSame(one, other []api.Clause) bool {
	return slices.EqualFunc(one, other, func(a, b api.Clause) bool {
		return slices.Equal(a.Yes, b.Yes) && slices.Equal(a.No, b.No)
	})
}

// hide returns clauses in lists with wrong elements beyond their lengths, and a wrong clause beyond the last.
func hide(l []api.Clause) []api.Clause {
	var own []api.Clause
	for _, c := range l {
		yes, no := append(slices.Clone(c.Yes), -9), append(slices.Clone(c.No), 999)
		own = append(own, some(yes[:len(c.Yes)], no[:len(c.No)]))
	}
	return append(own, yes(-7))[:len(l)]
}

// isHidden tells whether the elements that hide has put beyond the lengths are still there.
func isHidden(l []api.Clause) bool {
	for _, c := range l {
		if c.Yes[:len(c.Yes)+1][len(c.Yes)] != -9 || c.No[:len(c.No)+1][len(c.No)] != 999 {
			return false
		}
	}
	return areSame(l[:len(l)+1][len(l):], []api.Clause{yes(-7)})
}

// expectBuilt wants the result of Build to be as the chapter says, for all assignments of the inputs.
func expectBuilt(t *testing.T, in int, l []api.Gate, vars int, clauses []api.Clause) {
	t.Helper()
	if vars < in || vars > in+len(l) || len(clauses) > 4*len(l)+8 {
		t.Fatalf("%v: %d variables and %d clauses", l, vars, len(clauses))
	}
	for _, c := range clauses {
		list := slices.Concat(c.Yes, c.No)
		if len(list) > 3 || slices.ContainsFunc(list, func(v int) bool { return v < 0 || v >= vars }) {
			t.Fatalf("%v: %d variables and the clause %v", l, vars, c)
		}
	}
	for set := range 1 << in {
		want := 0
		if modelValue(l, len(l)-1, set) {
			want = 1
		}
		if got := solutions(vars, clauses, haveOf(in, set), 2); got != want {
			t.Fatalf("%v, inputs %b: %d solutions of %v; want %d", l, set, got, clauses, want)
		}
	}
}

package name_test

import (
	"slices"
	"testing"

	"tapeworks/api"
	"tapeworks/gate"
	"tapeworks/name"
)

func TestByHand(t *testing.T) {
	cases := []struct {
		label string
		vars  int
		l     []api.Clause
		// sets has the sets of true variables for which all clauses hold.
		sets []int
	}{
		{"the example of the chapter", 2, []api.Clause{some([]int{0}, []int{1})}, []int{0, 1, 3}},
		{"no variables and no clauses", 0, nil, []int{0}},
		{"no variables and an empty clause", 0, []api.Clause{{}}, nil},
		{"no clauses", 2, []api.Clause{}, []int{0, 1, 2, 3}},
		{"an empty clause", 1, []api.Clause{{Yes: []int{}, No: []int{}}}, nil},
		{"an empty clause among others", 1, []api.Clause{yes(0), {}, no(0)}, nil},
		{"a variable is true", 2, []api.Clause{yes(1)}, []int{2, 3}},
		{"a variable is false", 2, []api.Clause{no(1)}, []int{0, 1}},
		{"one of three is true", 3, []api.Clause{yes(0, 1, 2)}, []int{1, 2, 3, 4, 5, 6, 7}},
		{"one of three is false", 3, []api.Clause{no(2, 0, 1)}, []int{0, 1, 2, 3, 4, 5, 6}},
		{"a variable is true or false", 1, []api.Clause{some([]int{0}, []int{0})}, []int{0, 1}},
		{"a variable is true and false", 1, []api.Clause{yes(0), no(0)}, nil},
		{"a variable is named twice", 2, []api.Clause{yes(1, 1), no(0, 0, 0)}, []int{2}},
		{"two variables are equal", 2, []api.Clause{some([]int{0}, []int{1}), some([]int{1}, []int{0})}, []int{0, 3}},
		{"two variables differ", 2, []api.Clause{yes(0, 1), no(0, 1)}, []int{1, 2}},
		{"a chain", 3, []api.Clause{yes(0), some([]int{1}, []int{0}), some([]int{2}, []int{1})}, []int{7}},
		{"a clause is there twice", 1, []api.Clause{yes(0), yes(0)}, []int{1}},
	}
	for _, c := range cases {
		if got, e := name.Many(c.vars, c.l); e != api.OK || got != len(c.sets) {
			t.Errorf("%s: Many: %d, error %d; want %d", c.label, got, e, len(c.sets))
		}
		for set := range 1 << c.vars {
			want := slices.Contains(c.sets, set)
			if got, e := name.True(c.vars, c.l, haveOf(c.vars, set)); e != api.OK || got != want {
				t.Errorf("%s: True for %b: %t, error %d; want %t", c.label, set, got, e, want)
			}
		}
	}
}

// TestOneAndTwoClauses holds all clauses, and all pairs of them, against sets of variables.
func TestOneAndTwoClauses(t *testing.T) {
	const vars, all = 3, 1<<3 - 1
	holds := func(clause, set int) bool {
		return clause>>vars&set != 0 || clause&all&^set != 0
	}
	clause := func(number int) api.Clause {
		return some(elements(number>>vars), elements(number&all))
	}
	for one := range 1 << (2 * vars) {
		for other := range 1 << (2 * vars) {
			l := []api.Clause{clause(one), clause(other)}
			count := 0
			for set := range 1 << vars {
				want := holds(one, set) && holds(other, set)
				if want {
					count++
				}
				if got, e := name.True(vars, l, haveOf(vars, set)); e != api.OK || got != want {
					t.Fatalf("%v for %b: %t, error %d; want %t", l, set, got, e, want)
				}
			}
			if got, e := name.Many(vars, l); e != api.OK || got != count {
				t.Fatalf("%v: %d, error %d; want %d", l, got, e, count)
			}
		}
	}
}

// TestManyClauses holds many and long clauses against the model.
func TestManyClauses(t *testing.T) {
	var d dice
	trues, counts := 0, map[int]bool{}
	for round := range 3000 {
		vars := 1 + round%api.MaxVars
		l := d.clauses(vars, d.below(30), 1+d.below(api.MaxVars))
		if round%100 == 0 {
			l = append(d.clauses(vars, api.MaxMade-len(l), api.MaxVars), l...)
		}
		count := 0
		for set := range 1 << vars {
			if modelTrue(l, haveOf(vars, set)) {
				count++
			}
		}
		counts[count] = true
		if got, e := name.Many(vars, l); e != api.OK || got != count {
			t.Fatalf("%d variables, %v: %d, error %d; want %d", vars, l, got, e, count)
		}
		vars = 1 + d.below(api.MaxMade)
		l = d.clauses(vars, d.below(10), api.MaxVars)
		have := make([]bool, vars)
		for v := range have {
			have[v] = d.below(2) == 1
		}
		want := modelTrue(l, have)
		if want {
			trues++
		}
		if got, e := name.True(vars, l, have); e != api.OK || got != want {
			t.Fatalf("%v for %v: %t, error %d; want %t", l, have, got, e, want)
		}
	}
	if trues < 300 || trues > 2700 || len(counts) < 50 {
		t.Errorf("%d of 3000 are true, and there are %d counts: not varied", trues, len(counts))
	}
}

// TestManyWhole has a clause that leaves out a single assignment for each of some sets.
func TestManyWhole(t *testing.T) {
	const all = 1<<api.MaxVars - 1
	var l []api.Clause
	for n := range api.MaxMade + 1 {
		if got, e := name.Many(api.MaxVars, l); e != api.OK || got != 1<<api.MaxVars-n {
			t.Fatalf("%d clauses: %d, error %d", n, got, e)
		}
		set := n * 37 & all
		l = append(l, some(elements(all&^set), elements(set)))
	}
}

func TestExampleOfBuild(t *testing.T) {
	vars, clauses, e := name.Build(1, []api.Gate{input(0)})
	if e != api.OK || vars != 1 || !areSame(clauses, []api.Clause{yes(0)}) {
		t.Errorf("%d, %v, error %d", vars, clauses, e)
	}
	// The other inputs are variables as well.
	vars, clauses, e = name.Build(4, []api.Gate{input(1), input(2)})
	if e != api.OK || vars != 4 || !areSame(clauses, []api.Clause{yes(2)}) {
		t.Errorf("%d, %v, error %d", vars, clauses, e)
	}
}

// build wants Build to accept a circuit, and its result to be as the chapter says.
func build(t *testing.T, in int, l []api.Gate) (int, []api.Clause) {
	t.Helper()
	vars, clauses, e := name.Build(in, l)
	if e != api.OK {
		t.Fatalf("%d inputs, %v: error %d", in, l, e)
	}
	expectBuilt(t, in, l, vars, clauses)
	return vars, clauses
}

func TestSmallCircuits(t *testing.T) {
	for in := 1; in <= 3; in++ {
		for gates := 1; gates <= 4; gates++ {
			for l := range circuits(in, gates) {
				build(t, in, l)
			}
		}
	}
}

func TestLargeCircuits(t *testing.T) {
	var d dice
	for round := range 500 {
		in := 1 + round%api.MaxIn
		build(t, in, d.circuit(in, 1+d.below(api.MaxGates), round%2 == 0))
		build(t, in, d.circuit(in, api.MaxGates, round%2 == 1))
	}
}

// TestUnusedGates: gates on which the value does not depend have a single value nevertheless.
func TestUnusedGates(t *testing.T) {
	for _, l := range [][]api.Gate{
		{input(0), not(0), and(0, 1), or(1, 2), input(1)},
		{input(0), input(1), or(0, 1), and(0, 1), not(3), input(2)},
		{input(2), and(0, 0), or(0, 1), not(2), not(0)},
		append(slices.Repeat([]api.Gate{input(0)}, api.MaxGates-2), not(7), input(1)),
	} {
		build(t, 3, l)
	}
}

// TestEqualParts: the parts of a gate may be one gate, or gates with one variable.
func TestEqualParts(t *testing.T) {
	for _, l := range [][]api.Gate{
		{input(0), and(0, 0)},
		{input(0), or(0, 0)},
		{input(0), input(0), and(0, 1)},
		{input(0), input(0), or(0, 1)},
		{input(0), not(0), and(1, 1), or(2, 2), not(3), not(4)},
	} {
		build(t, 1, l)
		build(t, 2, l)
	}
}

// TestUnusedFields: fields that a kind does not use change nothing.
func TestUnusedFields(t *testing.T) {
	for _, n := range []int{-1 << 63, -1, 0, 1, 99, 1<<63 - 1} {
		build(t, 1, []api.Gate{{Kind: api.GIn, B: n}, {Kind: api.GNot, A: 0, B: n}})
		build(t, 2, []api.Gate{{Kind: api.GIn, A: 1, B: n}})
	}
}

// TestInPackage puts the clauses of circuits into the functions for clauses.
func TestInPackage(t *testing.T) {
	var d dice
	counted := 0
	for round := range 1000 {
		in := 1 + round%api.MaxIn
		l := d.circuit(in, 1+d.below(9), round%2 == 0)
		vars, clauses := build(t, in, l)
		count := 0
		for set := range 1 << in {
			value, e := gate.Value(in, l, haveOf(in, set))
			if e != api.OK {
				t.Fatalf("%v: error %d", l, e)
			}
			if value {
				count++
			}
		}
		if vars <= api.MaxVars {
			counted++
			if got, e := name.Many(vars, clauses); e != api.OK || got != count {
				t.Fatalf("%v: %d, error %d; want %d", l, got, e, count)
			}
		}
	}
	if counted < 100 {
		t.Errorf("only %d have few variables", counted)
	}
	l := d.circuit(api.MaxIn, api.MaxGates, false)
	vars, clauses := build(t, api.MaxIn, l)
	if _, e := name.True(vars, clauses, make([]bool, vars)); e != api.OK {
		t.Errorf("%d variables, %d clauses: error %d", vars, len(clauses), e)
	}
}

// TestIsRepeatable: a result does not depend on earlier calls, nor on what became of their results.
func TestIsRepeatable(t *testing.T) {
	var d dice
	for range 200 {
		l := d.circuit(3, 20, false)
		vars, first, _ := name.Build(3, l)
		kept := copyOf(first)
		for i, c := range first {
			// What is written into one list, and behind it, is not seen in another.
			for _, list := range [][]int{c.Yes, c.No} {
				clear(list[:cap(list)])
			}
			if !areSame(first[i+1:], kept[i+1:]) {
				t.Fatalf("%v: clause %d shares memory with a later one", l, i)
			}
			first[i] = api.Clause{}
		}
		if again, clauses, _ := name.Build(3, l); again != vars || !areSame(clauses, kept) {
			t.Fatalf("%v: %v, and then %v", l, kept, clauses)
		}
	}
}

// TestNothingIsChanged: the functions leave their arguments, and what lies behind these, as they are.
func TestNothingIsChanged(t *testing.T) {
	var d dice
	for range 500 {
		was := d.clauses(5, d.below(9), 4)
		l := hide(was)
		have := append(haveOf(5, d.below(32)), true)
		kept := slices.Clone(have)
		if got, e := name.True(5, l, have[:5]); e != api.OK || got != modelTrue(was, have[:5]) {
			t.Fatalf("%v for %v: %t, error %d", was, have, got, e)
		}
		if got, e := name.Many(5, l); e != api.OK || got != solutions(5, was, nil, 32) {
			t.Fatalf("%v: %d, error %d", was, got, e)
		}
		if !areSame(l, was) || !isHidden(l) || !slices.Equal(have, kept) {
			t.Fatalf("%v: an argument has changed", was)
		}
		gates := append(d.circuit(3, 9, false), api.Gate{Kind: 9, A: 9, B: 9})
		before := slices.Clone(gates)
		vars, clauses, e := name.Build(3, gates[:9])
		if e != api.OK || !slices.Equal(gates, before) {
			t.Fatalf("%v: error %d, and then %v", before, e, gates)
		}
		expectBuilt(t, 3, before[:9], vars, clauses)
	}
}

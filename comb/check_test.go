package comb_test

import (
	"math"
	"slices"
	"testing"

	"tapeworks/api"
	"tapeworks/comb"
)

// expectError wants all functions to refuse a list, whatever the other arguments are.
func expectError(t *testing.T, name string, l []api.Comb, want api.Errno) {
	t.Helper()
	if e := comb.Check(l); e != want {
		t.Errorf("%s: Check: error %d; want %d", name, e, want)
	}
	if got, e := comb.Step(l); e != want || len(got) != 0 {
		t.Errorf("%s: Step: %v, error %d; want error %d", name, got, e, want)
	}
	for _, n := range []int{0, 1, -1, api.MaxSteps, api.MaxSteps + 1, api.MaxSmall + 1} {
		if got, done, e := comb.Norm(l, n); e != want || len(got) != 0 || done != 0 {
			t.Errorf("%s: Norm with %d steps: %v, %d, error %d; want error %d", name, n, got, done, e, want)
		}
		if got, e := comb.Out(l, n); e != want || len(got) != 0 {
			t.Errorf("%s: Out of %d: %v, error %d; want error %d", name, n, got, e, want)
		}
	}
}

// expectValid wants all functions to accept a list.
func expectValid(t *testing.T, name string, l []api.Comb) {
	t.Helper()
	if e := comb.Check(l); e != api.OK {
		t.Errorf("%s: Check: error %d", name, e)
	}
	if _, e := comb.Step(l); e != api.OK && e != api.ErrNone && e != api.ErrLong {
		t.Errorf("%s: Step: error %d", name, e)
	}
	if _, done, e := comb.Norm(l, 0); e != api.OK || done != 0 {
		t.Errorf("%s: Norm: %d, error %d", name, done, e)
	}
	if _, e := comb.Out(l, 0); e != api.OK && e != api.ErrLong {
		t.Errorf("%s: Out: error %d", name, e)
	}
}

func variable(number int) api.Comb {
	return api.Comb{Kind: api.KVar, Var: number}
}

func put(a, b int) api.Comb {
	return api.Comb{Kind: api.KPut, A: a, B: b}
}

// doubled returns a list of a leaf and applications, each of the one before to itself.
func doubled(leaf api.Comb, times int) []api.Comb {
	l := []api.Comb{leaf}
	for i := range times {
		l = append(l, put(i, i))
	}
	return l
}

// wide returns a list whose tree has so many leaves, all of them the given one, and is a node smaller than twice that many.
func wide(leaf api.Comb, leaves int) []api.Comb {
	l := doubled(leaf, 8)
	last := -1
	for i := range 9 {
		if leaves>>i&1 == 0 {
			continue
		}
		if last >= 0 {
			l = append(l, put(last, i))
			last = len(l) - 1
		} else {
			last = i
		}
	}
	return slices.Concat(l[:max(last+1, 9)])
}

func TestCheckLength(t *testing.T) {
	wrong := api.Comb{Kind: 9}
	expectError(t, "no nodes", nil, api.ErrLarge)
	expectError(t, "an empty list", []api.Comb{}, api.ErrLarge)
	expectError(t, "no nodes within the length", []api.Comb{variable(0)}[:0], api.ErrLarge)
	expectError(t, "a node too many", slices.Repeat([]api.Comb{variable(0)}, api.MaxCombs+1), api.ErrLarge)
	expectError(t, "a node too many, before wrong ones", slices.Repeat([]api.Comb{wrong}, api.MaxCombs+1), api.ErrLarge)
	expectError(t, "a wrong node", slices.Repeat([]api.Comb{wrong}, api.MaxCombs), api.ErrKind)
	for n := 1; n <= api.MaxCombs; n++ {
		expectValid(t, "length", slices.Repeat([]api.Comb{variable(0)}, n))
	}
	expectValid(t, "a wrong node beyond the length", []api.Comb{variable(0), wrong}[:1])
}

func TestCheckKind(t *testing.T) {
	for _, kind := range []int{math.MinInt, -1, 0, api.KPut + 1, 256 + api.KS, math.MaxInt} {
		expectError(t, "unknown kind", []api.Comb{{Kind: kind}}, api.ErrKind)
		expectError(t, "unknown kind before all else", []api.Comb{{Kind: kind, A: -1, B: -1, Var: -1}}, api.ErrKind)
		expectError(t, "unknown kind of a node that is not used", []api.Comb{{Kind: kind}, variable(0)}, api.ErrKind)
		expectError(t, "unknown kind of the last node", []api.Comb{variable(0), {Kind: kind}}, api.ErrKind)
	}
}

func TestCheckVariable(t *testing.T) {
	for _, number := range []int{0, 1, api.MaxSmall - 1, api.MaxSmall} {
		expectValid(t, "variable", []api.Comb{variable(number)})
	}
	for _, number := range []int{math.MinInt, -1, api.MaxSmall + 1, math.MaxInt} {
		expectError(t, "variable", []api.Comb{variable(number)}, api.ErrRange)
		expectError(t, "variable that is not used", []api.Comb{variable(number), variable(0)}, api.ErrRange)
		expectError(t, "variable in an application", []api.Comb{variable(number), {Kind: api.KK}, put(1, 0)}, api.ErrRange)
	}
}

func TestCheckApplication(t *testing.T) {
	expectError(t, "only an application", []api.Comb{{Kind: api.KPut}}, api.ErrArg)
	two := []api.Comb{variable(0), variable(1)}
	for _, number := range []int{0, 1} {
		expectValid(t, "preceding nodes", append(slices.Clone(two), put(number, 1)))
		expectValid(t, "preceding nodes", append(slices.Clone(two), put(0, number)))
	}
	for _, number := range []int{math.MinInt, -1, 2, 3, 4, math.MaxInt} {
		expectError(t, "A", append(slices.Clone(two), put(number, 0), variable(0)), api.ErrArg)
		expectError(t, "B", append(slices.Clone(two), put(0, number), variable(0)), api.ErrArg)
		expectError(t, "A and B", append(slices.Clone(two), put(number, number), variable(0)), api.ErrArg)
	}
}

func TestCheckUnusedFields(t *testing.T) {
	for _, n := range []int{math.MinInt, -1, 99, math.MaxInt} {
		expectValid(t, "S", []api.Comb{{Kind: api.KS, A: n, B: n, Var: n}})
		expectValid(t, "K", []api.Comb{{Kind: api.KK, A: n, B: n, Var: n}})
		expectValid(t, "variable", []api.Comb{{Kind: api.KVar, A: n, B: n}})
		expectValid(t, "application", []api.Comb{variable(0), {Kind: api.KPut, Var: n}})
	}
}

// TestCheckFirstInvalid: the first invalid node counts, not the first error.
func TestCheckFirstInvalid(t *testing.T) {
	kind, number, part := api.Comb{Kind: 9}, variable(-1), put(-1, 50)
	expectError(t, "kind first", []api.Comb{kind, number, part}, api.ErrKind)
	expectError(t, "variable first", []api.Comb{number, kind, part}, api.ErrRange)
	expectError(t, "application first", []api.Comb{part, kind, number}, api.ErrArg)
	expectError(t, "application before variable", []api.Comb{variable(0), part, number, kind}, api.ErrArg)
	expectError(t, "variable before application", []api.Comb{variable(0), number, part, kind}, api.ErrRange)
	large := doubled(variable(0), 9)
	expectError(t, "kind before the size of the tree", append(slices.Clone(large), kind, put(9, 9)), api.ErrKind)
	expectError(t, "variable before the size of the tree", append(slices.Clone(large), number, put(9, 9)), api.ErrRange)
	expectError(t, "application before the size of the tree", append(slices.Clone(large), part, put(9, 9)), api.ErrArg)
}

func TestCheckTree(t *testing.T) {
	for _, leaf := range []api.Comb{variable(0), {Kind: api.KS}, {Kind: api.KK}} {
		expectValid(t, "the largest tree", wide(leaf, api.MaxNodes/2))
		expectError(t, "a tree too large", wide(leaf, api.MaxNodes/2+1), api.ErrLarge)
		expectError(t, "a tree of 511 nodes", doubled(leaf, 8), api.ErrLarge)
		for _, times := range []int{29, 30, 31, 32, 39} {
			l := doubled(leaf, times)
			expectError(t, "a tree of very many nodes", l, api.ErrLarge)
			if times < 39 {
				expectValid(t, "very many nodes that are not used", append(slices.Clone(l), leaf))
			}
		}
		expectValid(t, "parts that are not used", append(wide(leaf, api.MaxNodes/2+1), leaf, leaf))
	}
	if got, _, e := comb.Norm(wide(variable(3), api.MaxNodes/2), 0); e != api.OK || len(got) != api.MaxNodes-1 {
		t.Errorf("%d nodes, error %d", len(got), e)
	}
}

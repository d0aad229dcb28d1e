package name_test

import (
	"math"
	"slices"
	"testing"

	"tapeworks/api"
	"tapeworks/gate"
	"tapeworks/name"
)

// expectTrueError wants True to refuse its arguments.
func expectTrueError(t *testing.T, label string, vars int, l []api.Clause, have []bool, want api.Errno) {
	t.Helper()
	if got, e := name.True(vars, l, have); e != want || got {
		t.Errorf("%s: True with %d values: %t, error %d; want error %d", label, len(have), got, e, want)
	}
}

// expectManyError wants Many to refuse its arguments.
func expectManyError(t *testing.T, label string, vars int, l []api.Clause, want api.Errno) {
	t.Helper()
	if got, e := name.Many(vars, l); e != want || got != 0 {
		t.Errorf("%s: Many: %d, error %d; want error %d", label, got, e, want)
	}
}

// expectError wants both functions to refuse clauses, whatever the values of the variables are.
func expectError(t *testing.T, label string, vars int, l []api.Clause, want api.Errno) {
	t.Helper()
	expectManyError(t, label, vars, l, want)
	for _, n := range []int{0, 1, min(max(vars, 0), 300), api.MaxMade + 1} {
		for _, value := range []bool{false, true} {
			expectTrueError(t, label, vars, l, slices.Repeat([]bool{value}, n), want)
		}
	}
}

// expectValid wants both functions to accept clauses.
func expectValid(t *testing.T, label string, vars int, l []api.Clause) {
	t.Helper()
	if _, e := name.True(vars, l, make([]bool, vars)); e != api.OK {
		t.Errorf("%s: True: error %d", label, e)
	}
	if _, e := name.Many(vars, l); e != api.OK {
		t.Errorf("%s: Many: error %d", label, e)
	}
}

// zeros returns a list of so many zeros.
func zeros(length int) []int {
	return make([]int, length)
}

func TestVariableLimits(t *testing.T) {
	wrong := []api.Clause{yes(-1)}
	for _, vars := range []int{math.MinInt, -1, api.MaxMade + 1, 1 << 32, math.MaxInt} {
		expectError(t, "number of variables", vars, nil, api.ErrLarge)
		expectError(t, "number of variables", vars, []api.Clause{yes(0)}, api.ErrLarge)
		expectError(t, "number of variables before a wrong one", vars, wrong, api.ErrLarge)
	}
	for _, vars := range []int{api.MaxVars + 1, 62, 63, 64, api.MaxMade} {
		expectManyError(t, "number of variables", vars, nil, api.ErrLarge)
		expectManyError(t, "number of variables before a wrong one", vars, wrong, api.ErrLarge)
		expectTrueError(t, "a wrong variable", vars, wrong, nil, api.ErrArg)
	}
	for vars := range api.MaxMade + 1 {
		if got, e := name.True(vars, nil, make([]bool, vars)); e != api.OK || !got {
			t.Errorf("%d variables: True: %t, error %d", vars, got, e)
		}
		many, e := name.Many(vars, nil)
		if vars <= api.MaxVars && (e != api.OK || many != 1<<vars) {
			t.Errorf("%d variables: Many: %d, error %d", vars, many, e)
		}
		if vars > api.MaxVars && (e != api.ErrLarge || many != 0) {
			t.Errorf("%d variables: Many: %d, error %d", vars, many, e)
		}
	}
}

func TestClauseLimits(t *testing.T) {
	for _, n := range []int{api.MaxCls, api.MaxCls + 1, api.MaxMade} {
		expectValid(t, "clauses", 1, slices.Repeat([]api.Clause{yes(0)}, n))
		expectError(t, "wrong clauses", 1, slices.Repeat([]api.Clause{yes(1)}, n), api.ErrArg)
	}
	expectError(t, "too many clauses", 1, slices.Repeat([]api.Clause{yes(0)}, api.MaxMade+1), api.ErrLarge)
	expectError(t, "too many empty clauses", 0, make([]api.Clause, api.MaxMade+1), api.ErrLarge)
	expectError(t, "too many clauses before wrong ones", 1, slices.Repeat([]api.Clause{yes(1)}, api.MaxMade+1), api.ErrLarge)
	expectError(t, "too many clauses and variables", math.MaxInt, make([]api.Clause, api.MaxMade+1), api.ErrLarge)
	expectValid(t, "clauses beyond the length", 1, slices.Repeat([]api.Clause{yes(0)}, api.MaxMade+1)[:api.MaxMade])
}

func TestListLimits(t *testing.T) {
	for n := range api.MaxVars + 1 {
		expectValid(t, "Yes", 1, []api.Clause{yes(zeros(n)...)})
		expectValid(t, "No", 1, []api.Clause{no(zeros(n)...)})
		expectValid(t, "Yes and No", 1, []api.Clause{some(zeros(n), zeros(api.MaxVars))})
	}
	for _, n := range []int{api.MaxVars + 1, api.MaxMade} {
		expectError(t, "Yes", 1, []api.Clause{yes(zeros(n)...)}, api.ErrLarge)
		expectError(t, "No", 1, []api.Clause{no(zeros(n)...)}, api.ErrLarge)
		expectError(t, "Yes and No", 1, []api.Clause{some(zeros(n), zeros(n))}, api.ErrLarge)
		// The lengths of both lists come before the elements of any.
		expectError(t, "a long Yes without variables", 0, []api.Clause{yes(zeros(n)...)}, api.ErrLarge)
		expectError(t, "a long No without variables", 0, []api.Clause{no(zeros(n)...)}, api.ErrLarge)
		expectError(t, "a long No behind a wrong Yes", 1, []api.Clause{some([]int{5}, zeros(n))}, api.ErrLarge)
		expectError(t, "a long Yes before a wrong No", 1, []api.Clause{some(zeros(n), []int{5})}, api.ErrLarge)
	}
	expectValid(t, "a list that is long beyond its length", 1, []api.Clause{yes(zeros(50)[:api.MaxVars]...)})
}

func TestElements(t *testing.T) {
	for vars := range api.MaxVars + 1 {
		for v := range vars {
			expectValid(t, "Yes", vars, []api.Clause{yes(v)})
			expectValid(t, "No", vars, []api.Clause{no(v)})
		}
		for _, v := range []int{math.MinInt, -1, vars, vars + 1, math.MaxInt} {
			expectError(t, "Yes", vars, []api.Clause{yes(v)}, api.ErrArg)
			expectError(t, "No", vars, []api.Clause{no(v)}, api.ErrArg)
			expectError(t, "the last clause", vars, []api.Clause{{}, {}, no(v)}, api.ErrArg)
		}
	}
	expectError(t, "the last of Yes", 2, []api.Clause{some([]int{0, 1, 2}, []int{0, 1})}, api.ErrArg)
	expectError(t, "the last of No", 2, []api.Clause{some([]int{0, 1}, []int{0, 1, 2})}, api.ErrArg)
	// The clause before holds for no values, or for all.
	expectError(t, "behind an empty clause", 2, []api.Clause{{}, no(2)}, api.ErrArg)
	expectError(t, "behind a clause that holds", 2, []api.Clause{some([]int{0}, []int{0}), no(2)}, api.ErrArg)
	expectTrueError(t, "200 variables", 200, []api.Clause{yes(200)}, make([]bool, 200), api.ErrArg)
}

// TestFirstInvalid: the first invalid clause counts, not the first error.
func TestFirstInvalid(t *testing.T) {
	long, part := no(zeros(api.MaxVars+1)...), yes(0, 3)
	expectError(t, "length first", 3, []api.Clause{long, part}, api.ErrLarge)
	expectError(t, "element first", 3, []api.Clause{part, long}, api.ErrArg)
	expectError(t, "length before element", 3, []api.Clause{yes(0), {}, long, part, part}, api.ErrLarge)
	expectError(t, "element before length", 3, []api.Clause{yes(0), {}, part, long, long}, api.ErrArg)
}

func TestValueErrors(t *testing.T) {
	for _, vars := range []int{0, 1, 2, api.MaxVars, api.MaxVars + 1, api.MaxMade} {
		for _, n := range []int{0, 1, 2, 3, vars - 1, vars + 1, api.MaxMade + 1} {
			if n == vars || n < 0 {
				continue
			}
			have := make([]bool, n, n+vars)
			expectTrueError(t, "values", vars, nil, have, api.ErrForm)
			expectTrueError(t, "values, and an empty clause", vars, []api.Clause{{}}, have, api.ErrForm)
			expectTrueError(t, "values, after a wrong clause", vars, []api.Clause{yes(vars)}, have, api.ErrArg)
			expectTrueError(t, "values, after a long clause", vars, []api.Clause{yes(zeros(99)...)}, have, api.ErrLarge)
		}
	}
}

// wrongCircuits has circuits that package gate refuses.
func wrongCircuits() map[string]struct {
	in   int
	l    []api.Gate
	want api.Errno
} {
	type circuit = struct {
		in   int
		l    []api.Gate
		want api.Errno
	}
	in := []api.Gate{input(0)}
	return map[string]circuit{
		"no gates":                    {1, nil, api.ErrLarge},
		"no gates within the length":  {1, in[:0], api.ErrLarge},
		"nothing":                     {0, nil, api.ErrLarge},
		"less than no inputs":         {-1, in, api.ErrLarge},
		"too many inputs":             {api.MaxIn + 1, in, api.ErrLarge},
		"far too few inputs":          {math.MinInt, in, api.ErrLarge},
		"far too many inputs":         {math.MaxInt, in, api.ErrLarge},
		"too many gates":              {1, slices.Repeat(in, api.MaxGates+1), api.ErrLarge},
		"too many wrong gates":        {1, make([]api.Gate, api.MaxGates+1), api.ErrLarge},
		"an unknown kind":             {1, []api.Gate{{}}, api.ErrKind},
		"an unknown kind at the end":  {1, []api.Gate{input(0), {Kind: api.GOr + 1}}, api.ErrKind},
		"an unknown input":            {1, []api.Gate{input(1)}, api.ErrRange},
		"an input below 0":            {1, []api.Gate{input(-1)}, api.ErrRange},
		"no inputs":                   {0, in, api.ErrRange},
		"a gate below 0":              {1, []api.Gate{input(0), not(-1)}, api.ErrArg},
		"a gate itself":               {1, []api.Gate{input(0), and(0, 1)}, api.ErrArg},
		"a gate behind":               {1, []api.Gate{input(0), or(2, 0), input(0)}, api.ErrArg},
		"an input, and then a kind":   {1, []api.Gate{input(9), {}}, api.ErrRange},
		"a kind, and then an input":   {1, []api.Gate{{}, input(9)}, api.ErrKind},
		"a gate that is not used":     {1, []api.Gate{not(0), input(0)}, api.ErrArg},
		"a gate, and then an input":   {1, []api.Gate{input(0), or(0, 5), input(9)}, api.ErrArg},
		"an input that is not used":   {1, []api.Gate{input(9), input(0)}, api.ErrRange},
		"a kind that is not used":     {1, []api.Gate{{}, input(0)}, api.ErrKind},
		"far too large a gate number": {1, []api.Gate{input(0), and(0, math.MaxInt)}, api.ErrArg},
	}
}

func TestBuildErrors(t *testing.T) {
	for label, c := range wrongCircuits() {
		if e := gate.Check(c.in, c.l); e != c.want {
			t.Fatalf("%s: package gate says %d", label, e)
		}
		if vars, clauses, e := name.Build(c.in, c.l); e != c.want || vars != 0 || len(clauses) != 0 {
			t.Errorf("%s: %d, %v, error %d; want error %d", label, vars, clauses, e, c.want)
		}
	}
}

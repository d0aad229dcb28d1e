package hard_test

import (
	"math"
	"slices"
	"testing"

	"tapeworks/api"
	"tapeworks/hard"
)

// far has numbers that no limit allows.
func far() []int {
	return []int{math.MinInt, math.MinInt32, -1, 1 << 31, 1 << 32, math.MaxInt}
}

// expectClauseError wants Dots and Weights to refuse clauses.
func expectClauseError(t *testing.T, label string, vars int, l []api.Clause, want api.Errno) {
	t.Helper()
	if n, lines, e := hard.Dots(vars, l); e != want || n != 0 || len(lines) != 0 {
		t.Errorf("%s: Dots: %d, %v, error %d; want error %d", label, n, lines, e, want)
	}
	if weights, total, e := hard.Weights(vars, l); e != want || len(weights) != 0 || total != 0 {
		t.Errorf("%s: Weights: %v, %d, error %d; want error %d", label, weights, total, e, want)
	}
}

// expectClauses wants Dots to accept clauses, and Weights, unless they need too many digits.
func expectClauses(t *testing.T, label string, vars int, l []api.Clause) {
	t.Helper()
	if _, _, e := hard.Dots(vars, l); e != api.OK {
		t.Errorf("%s: Dots: error %d", label, e)
	}
	want := api.OK
	if vars+len(l) > api.MaxDigits {
		want = api.ErrLarge
	}
	weights, total, e := hard.Weights(vars, l)
	if e != want {
		t.Errorf("%s: Weights: error %d; want error %d", label, e, want)
	}
	if e != api.OK && (len(weights) != 0 || total != 0) {
		t.Errorf("%s: Weights: %v, %d, error %d", label, weights, total, e)
	}
}

func TestClauseLimits(t *testing.T) {
	for _, vars := range append(far(), api.MaxVars+1) {
		expectClauseError(t, "number of variables", vars, nil, api.ErrLarge)
		expectClauseError(t, "number of variables before a wrong one", vars, []api.Clause{yes(-1)}, api.ErrLarge)
	}
	for vars := range api.MaxVars + 1 {
		for n := range api.MaxCls + 1 {
			expectClauses(t, "empty clauses", vars, make([]api.Clause, n))
			expectClauses(t, "clauses", max(vars, 1), slices.Repeat([]api.Clause{yes(0)}, n))
		}
		for _, n := range []int{api.MaxCls + 1, api.MaxMade} {
			expectClauseError(t, "too many clauses", vars, make([]api.Clause, n), api.ErrLarge)
			expectClauseError(t, "too many wrong clauses", vars, slices.Repeat([]api.Clause{yes(99)}, n), api.ErrLarge)
		}
	}
	expectClauses(t, "clauses beyond the length", 1, make([]api.Clause, api.MaxCls+1)[:api.MaxCls])
}

func TestLiteralLimits(t *testing.T) {
	for y := range 6 {
		for n := range 6 {
			c := some(make([]int, y), make([]int, n))
			if y+n <= 3 {
				expectClauses(t, "few literals", 1, []api.Clause{c})
				expectClauses(t, "few literals", 1, []api.Clause{c, c, c})
				continue
			}
			expectClauseError(t, "many literals", 1, []api.Clause{c}, api.ErrLarge)
			expectClauseError(t, "many wrong literals", 0, []api.Clause{c}, api.ErrLarge)
			// The lengths of all clauses come before the literals of any.
			expectClauseError(t, "many literals behind a wrong one", 1, []api.Clause{yes(1), {}, c}, api.ErrLarge)
			expectClauseError(t, "many literals before a wrong one", 1, []api.Clause{c, no(-1)}, api.ErrLarge)
		}
	}
	expectClauses(t, "literals beyond the length", 1, []api.Clause{some(make([]int, 9)[:2], make([]int, 9)[:1])})
}

func TestLiterals(t *testing.T) {
	for vars := range api.MaxVars + 1 {
		for v := range vars {
			expectClauses(t, "Yes", vars, []api.Clause{yes(v)})
			expectClauses(t, "No", vars, []api.Clause{no(v)})
		}
		for _, v := range append(far(), vars, vars+1) {
			expectClauseError(t, "Yes", vars, []api.Clause{yes(v)}, api.ErrArg)
			expectClauseError(t, "No", vars, []api.Clause{no(v)}, api.ErrArg)
			expectClauseError(t, "the last clause", vars, []api.Clause{{}, {}, no(v)}, api.ErrArg)
			// Weights checks the number of digits last.
			expectClauseError(t, "before the number of digits", vars, append(make([]api.Clause, 9), yes(v)), api.ErrArg)
		}
	}
	expectClauseError(t, "the last of Yes", 1, []api.Clause{yes(0, 0, 1)}, api.ErrArg)
	expectClauseError(t, "the last of No", 1, []api.Clause{some([]int{0, 0}, []int{1})}, api.ErrArg)
	expectClauseError(t, "the first of three", 1, []api.Clause{yes(1, 0, 0)}, api.ErrArg)
}

// TestDigits: Weights allows five variables and clauses together.
func TestDigits(t *testing.T) {
	for vars := range api.MaxVars + 1 {
		for n := range api.MaxCls + 1 {
			_, _, e := hard.Weights(vars, make([]api.Clause, n))
			if isLarge := vars+n > 5; isLarge != (e == api.ErrLarge) || !isLarge && e != api.OK {
				t.Errorf("%d variables and %d clauses: error %d", vars, n, e)
			}
		}
	}
}

// expectGraphError wants Free and Cover to refuse their arguments.
func expectGraphError(t *testing.T, label string, n int, lines [][2]int, k int, want api.Errno) {
	t.Helper()
	if list, e := hard.Free(n, lines, k); e != want || len(list) != 0 {
		t.Errorf("%s: Free: %v, error %d; want error %d", label, list, e, want)
	}
	if list, e := hard.Cover(n, lines, k); e != want || len(list) != 0 {
		t.Errorf("%s: Cover: %v, error %d; want error %d", label, list, e, want)
	}
}

// expectGraph wants Free and Cover to accept their arguments.
func expectGraph(t *testing.T, label string, n int, lines [][2]int, k int) {
	t.Helper()
	if _, e := hard.Free(n, lines, k); e != api.OK && e != api.ErrNone {
		t.Errorf("%s: Free: error %d", label, e)
	}
	if _, e := hard.Cover(n, lines, k); e != api.OK && e != api.ErrNone {
		t.Errorf("%s: Cover: error %d", label, e)
	}
}

func TestGraphLimits(t *testing.T) {
	for _, n := range append(far(), api.MaxDot+1) {
		for _, k := range []int{-1, 0, 1, n} {
			expectGraphError(t, "vertices", n, nil, k, api.ErrLarge)
			expectGraphError(t, "vertices before a wrong edge", n, [][2]int{{-1, 0}}, k, api.ErrLarge)
			expectGraphError(t, "vertices before a wrong loop", n, [][2]int{{0, 0}}, k, api.ErrLarge)
		}
	}
	for n := range api.MaxDot + 1 {
		expectGraph(t, "vertices", n, nil, n)
		expectGraph(t, "vertices", n, nil, 0)
	}
	for _, line := range [][2]int{{0, 1}, {0, 0}, {-1, 5}} {
		expectGraphError(t, "too many edges", 2, slices.Repeat([][2]int{line}, api.MaxMade+1), 9, api.ErrLarge)
	}
	expectGraph(t, "edges", 2, slices.Repeat([][2]int{{0, 1}}, api.MaxMade), 1)
	expectGraph(t, "edges beyond the length", 2, slices.Repeat([][2]int{{0, 1}}, 999)[:api.MaxMade], 1)
}

func TestEdges(t *testing.T) {
	for n := range api.MaxDot + 1 {
		for _, v := range append(far(), n, n+1) {
			for _, line := range [][2]int{{0, v}, {v, 0}, {v, v}} {
				expectGraphError(t, "no vertex", n, [][2]int{line}, 0, api.ErrArg)
				expectGraphError(t, "no vertex, and too many", n, [][2]int{line}, n+1, api.ErrArg)
				if n > 1 {
					expectGraphError(t, "no vertex at the end", n, [][2]int{{0, 1}, {1, 0}, line}, 0, api.ErrArg)
					// The ends of all edges come before those that are the same.
					expectGraphError(t, "no vertex behind a loop", n, [][2]int{{1, 1}, line}, 0, api.ErrArg)
				}
			}
		}
		for v := range n {
			expectGraphError(t, "a loop", n, [][2]int{{v, v}}, 0, api.ErrForm)
			expectGraphError(t, "a loop, and too many", n, [][2]int{{v, v}}, n+1, api.ErrForm)
			expectGraphError(t, "a loop, and too few", n, [][2]int{{0, n - 1}, {v, v}}, -1, api.ErrForm)
			if v > 0 {
				expectGraph(t, "an edge", n, [][2]int{{v - 1, v}, {v, v - 1}}, v)
			}
		}
	}
}

func TestNumberOfVertices(t *testing.T) {
	for n := range api.MaxDot + 1 {
		for _, k := range append(far(), n+1, api.MaxDot+1) {
			expectGraphError(t, "too many or too few", n, nil, k, api.ErrRange)
		}
	}
	expectGraphError(t, "more than there are", 2, [][2]int{{0, 1}}, 3, api.ErrRange)
	expectGraphError(t, "less than none", 2, [][2]int{{0, 1}}, -1, api.ErrRange)
}

func expectSumError(t *testing.T, label string, weights []int, total int, want api.Errno) {
	t.Helper()
	if list, e := hard.Sum(weights, total); e != want || len(list) != 0 {
		t.Errorf("%s: %v, error %d; want error %d", label, list, e, want)
	}
}

func TestSumErrors(t *testing.T) {
	for _, total := range append(far(), 0, 1, 17) {
		expectSumError(t, "too many weights", make([]int, api.MaxDot+1), total, api.ErrLarge)
		expectSumError(t, "too many ones", slices.Repeat([]int{1}, api.MaxMade), total, api.ErrLarge)
		expectSumError(t, "too many wrong weights", slices.Repeat([]int{-1}, api.MaxDot+1), total, api.ErrLarge)
		for _, w := range append(far(), api.MaxWeigh+1) {
			expectSumError(t, "a wrong weight", []int{w}, total, api.ErrRange)
			expectSumError(t, "a wrong weight at the end", append(make([]int, api.MaxDot-1), w), total, api.ErrRange)
			expectSumError(t, "a wrong weight, and too many", append(make([]int, api.MaxDot), w), total, api.ErrLarge)
			expectSumError(t, "a wrong weight that is the total", []int{1, w}, w, api.ErrRange)
		}
	}
	for _, weights := range [][]int{make([]int, api.MaxDot), slices.Repeat([]int{api.MaxWeigh}, api.MaxDot), make([]int, 99)[:api.MaxDot]} {
		if _, e := hard.Sum(weights, weights[0]); e != api.OK {
			t.Errorf("%v: error %d", weights, e)
		}
	}
}

package hard_test

import (
	"fmt"
	"math"
	"slices"
	"testing"

	"tapeworks/api"
	"tapeworks/hard"
	"tapeworks/name"
)

func TestDotsByHand(t *testing.T) {
	cases := []struct {
		label string
		vars  int
		l     []api.Clause
		n     int
		lines [][2]int
	}{
		{"the example of the chapter", 1, []api.Clause{yes(0), no(0)}, 2, [][2]int{{0, 1}}},
		{"nothing", 0, nil, 0, nil},
		{"empty clauses", 3, []api.Clause{{}, {}}, 0, nil},
		{"one clause", 3, []api.Clause{yes(2, 0, 1)}, 3, [][2]int{{0, 1}, {0, 2}, {1, 2}}},
		{"the same variable in one clause", 1, []api.Clause{some([]int{0}, []int{0})}, 2, [][2]int{{0, 1}}},
		{"a variable named three times", 1, []api.Clause{no(0, 0, 0)}, 3, [][2]int{{0, 1}, {0, 2}, {1, 2}}},
		{"equal literals", 2, []api.Clause{yes(0), yes(0), no(1), no(1)}, 4, nil},
		{"different variables", 2, []api.Clause{yes(0), no(1)}, 2, nil},
		{"No before Yes", 1, []api.Clause{no(0), yes(0)}, 2, [][2]int{{0, 1}}},
		{"Yes stands before No in a clause", 2, []api.Clause{some([]int{1}, []int{0}), no(1), yes(0)}, 4, [][2]int{{0, 1}, {0, 2}, {1, 3}}},
		{"an empty clause between", 1, []api.Clause{yes(0), {}, no(0)}, 2, [][2]int{{0, 1}}},
		{"sorted by both ends", 2, []api.Clause{yes(0, 1), no(1, 0)}, 4, [][2]int{{0, 1}, {0, 3}, {1, 2}, {2, 3}}},
	}
	for _, c := range cases {
		if n, lines, e := hard.Dots(c.vars, c.l); e != api.OK || n != c.n || !slices.Equal(lines, c.lines) {
			t.Errorf("%s: %d, %v, error %d; want %d, %v", c.label, n, lines, e, c.n, c.lines)
		}
	}
}

// TestDots holds many graphs against the model, up to the greatest.
func TestDots(t *testing.T) {
	var d dice
	for round := range 3000 {
		vars := round % (api.MaxVars + 1)
		l := d.clauses(vars, d.below(api.MaxCls+1))
		wantN, want := modelDots(l)
		if n, lines, e := hard.Dots(vars, l); e != api.OK || n != wantN || !slices.Equal(lines, want) {
			t.Fatalf("%v: %d, %v, error %d; want %d, %v", l, n, lines, e, wantN, want)
		}
	}
	var l []api.Clause
	for len(l) < api.MaxCls {
		l = append(l, d.clause(api.MaxVars, 3))
	}
	if n, _, e := hard.Dots(api.MaxVars, l); e != api.OK || n != 3*api.MaxCls {
		t.Errorf("%v: %d, error %d", l, n, e)
	}
}

func TestFreeByHand(t *testing.T) {
	triangle, path := [][2]int{{0, 1}, {0, 2}, {1, 2}}, [][2]int{{0, 1}, {1, 2}, {2, 3}}
	cases := []struct {
		label      string
		n          int
		lines      [][2]int
		k          int
		free       []int
		hasFree    bool
		cover      []int
		coverExist bool
	}{
		{"nothing", 0, nil, 0, nil, true, nil, true},
		{"no edges, no vertices chosen", 3, nil, 0, nil, true, nil, true},
		{"no edges", 3, nil, 2, []int{0, 1}, true, []int{0, 1}, true},
		{"all vertices without edges", 2, nil, 2, []int{0, 1}, true, []int{0, 1}, true},
		{"an edge, no vertices chosen", 2, [][2]int{{0, 1}}, 0, nil, true, nil, false},
		{"an edge, one", 2, [][2]int{{0, 1}}, 1, []int{0}, true, []int{0}, true},
		{"an edge, both", 2, [][2]int{{0, 1}}, 2, nil, false, []int{0, 1}, true},
		{"an edge beside a vertex", 3, [][2]int{{0, 1}}, 2, []int{0, 2}, true, []int{0, 1}, true},
		{"an edge behind a vertex", 3, [][2]int{{1, 2}}, 1, []int{0}, true, []int{1}, true},
		{"a triangle, one", 3, triangle, 1, []int{0}, true, nil, false},
		{"a triangle, two", 3, triangle, 2, nil, false, []int{0, 1}, true},
		{"a triangle, three", 3, triangle, 3, nil, false, []int{0, 1, 2}, true},
		{"a path, one", 4, path, 1, []int{0}, true, nil, false},
		{"a path, two", 4, path, 2, []int{0, 2}, true, []int{0, 2}, true},
		{"a path, three", 4, path, 3, nil, false, []int{0, 1, 2}, true},
		{"a star", 4, [][2]int{{3, 0}, {3, 1}, {2, 3}}, 1, []int{0}, true, []int{3}, true},
		{"a star, three", 4, [][2]int{{3, 0}, {3, 1}, {2, 3}}, 3, []int{0, 1, 2}, true, []int{0, 1, 2}, true},
		{"an edge twice, in both directions", 2, [][2]int{{1, 0}, {0, 1}, {1, 0}}, 1, []int{0}, true, []int{0}, true},
		{"the example of the tests", 3, [][2]int{{0, 1}, {1, 2}}, 1, []int{0}, true, []int{1}, true},
	}
	for _, c := range cases {
		free, e := hard.Free(c.n, c.lines, c.k)
		expectList(t, c.label+": Free", free, e, c.free, c.hasFree)
		cover, e := hard.Cover(c.n, c.lines, c.k)
		expectList(t, c.label+": Cover", cover, e, c.cover, c.coverExist)
	}
}

// compareGraph holds Free and Cover against all lists of vertices.
func compareGraph(t *testing.T, n int, lines [][2]int) {
	t.Helper()
	for k := range n + 1 {
		label := fmt.Sprintf("%d of %d vertices, %v", k, n, lines)
		want, exists := smallest(n, func(list []int) bool { return len(list) == k && isFree(lines, list) })
		got, e := hard.Free(n, lines, k)
		expectList(t, label+": Free", got, e, want, exists)
		want, exists = smallest(n, func(list []int) bool { return len(list) == k && isCover(lines, list) })
		got, e = hard.Cover(n, lines, k)
		expectList(t, label+": Cover", got, e, want, exists)
	}
}

// TestAllGraphs goes through all graphs of up to five vertices.
func TestAllGraphs(t *testing.T) {
	for n := range 6 {
		var pairs [][2]int
		for b := range n {
			for a := range b {
				pairs = append(pairs, [2]int{a, b})
			}
		}
		for set := range 1 << len(pairs) {
			var lines [][2]int
			for _, i := range elements(set) {
				lines = append(lines, pairs[i])
			}
			compareGraph(t, n, lines)
		}
	}
}

func TestGraphs(t *testing.T) {
	var d dice
	for round := range 200 {
		n := 2 + round%8
		compareGraph(t, n, d.graph(n, d.below(2*n)))
	}
	compareGraph(t, 12, d.graph(12, 20))
}

// TestLargeGraphs has the greatest graphs, some with few solutions.
func TestLargeGraphs(t *testing.T) {
	const n = api.MaxDot
	var d dice
	var whole, matched [][2]int
	for b := range n {
		for a := range b {
			whole = append(whole, [2]int{b, a})
		}
		if b%2 == 1 {
			matched = append(matched, [2]int{b, b - 1})
		}
	}
	for _, lines := range [][][2]int{nil, whole, matched, d.graph(n, 10), d.graph(n, 30), d.graph(n, api.MaxMade)} {
		for k := range n + 1 {
			free, freeError := hard.Free(n, lines, k)
			cover, coverError := hard.Cover(n, lines, n-k)
			if freeError != coverError || freeError != api.OK && freeError != api.ErrNone {
				t.Fatalf("%v: %d free: error %d; %d cover: error %d", lines, k, freeError, n-k, coverError)
			}
			if freeError == api.OK && (len(free) != k || !isFree(lines, free) || len(cover) != n-k || !isCover(lines, cover)) {
				t.Fatalf("%v: %d free: %v; cover: %v", lines, k, free, cover)
			}
		}
	}
	got, e := hard.Free(n, matched, n/2)
	expectList(t, "pairs: Free", got, e, []int{0, 2, 4, 6, 8, 10, 12, 14}, true)
	got, e = hard.Cover(n, matched, n/2)
	expectList(t, "pairs: Cover", got, e, []int{0, 2, 4, 6, 8, 10, 12, 14}, true)
	got, e = hard.Free(n, matched, n/2+1)
	expectList(t, "pairs: Free", got, e, nil, false)
	got, e = hard.Cover(n, matched, n/2-1)
	expectList(t, "pairs: Cover", got, e, nil, false)
}

func TestSumByHand(t *testing.T) {
	cases := []struct {
		label   string
		weights []int
		total   int
		want    []int
		exists  bool
	}{
		{"the example of the tests", []int{5, 3, 2}, 5, []int{0}, true},
		{"nothing", nil, 0, nil, true},
		{"nothing adds up to one", nil, 1, nil, false},
		{"no weights needed", []int{0, 1}, 0, nil, true},
		{"a sum before one weight", []int{3, 2, 5}, 5, []int{0, 1}, true},
		{"a list before those that it begins", []int{1, 0, 0}, 1, []int{0}, true},
		{"zero comes before", []int{0, 1}, 1, []int{0, 1}, true},
		{"zeros come before", []int{0, 0, 1, 0}, 1, []int{0, 1, 2}, true},
		{"equal weights", []int{2, 2, 2}, 4, []int{0, 1}, true},
		{"the first does not help", []int{4, 2, 3, 1}, 6, []int{0, 1}, true},
		{"the first two do not help", []int{4, 3, 5}, 5, []int{2}, true},
		{"too much", []int{4, 3, 5}, 13, nil, false},
		{"all", []int{4, 3, 5}, 12, []int{0, 1, 2}, true},
		{"between", []int{4, 3, 5}, 6, nil, false},
		{"less than 0", []int{0, 1}, -1, nil, false},
		{"far less than 0", []int{0, 1}, math.MinInt, nil, false},
		{"far too much", []int{0, api.MaxWeigh}, math.MaxInt, nil, false},
		{"beyond 32 bits", slices.Repeat([]int{api.MaxWeigh}, 6), 5 * api.MaxWeigh, []int{0, 1, 2, 3, 4}, true},
		{"the same in 32 bits", slices.Repeat([]int{api.MaxWeigh}, 6), 5*api.MaxWeigh - 1<<32, nil, false},
	}
	for _, c := range cases {
		got, e := hard.Sum(c.weights, c.total)
		expectList(t, c.label, got, e, c.want, c.exists)
	}
}

// TestSum holds many sums against all lists of indexes.
func TestSum(t *testing.T) {
	var d dice
	for round := range 600 {
		weights := make([]int, round%9)
		for i := range weights {
			weights[i] = d.below(2 + round%13)
		}
		for total := range 30 {
			want, exists := smallest(len(weights), func(list []int) bool { return sumOf(weights, list) == total })
			got, e := hard.Sum(weights, total)
			expectList(t, fmt.Sprintf("%v, %d", weights, total), got, e, want, exists)
		}
	}
}

// TestLargeSums has the greatest number of weights.
func TestLargeSums(t *testing.T) {
	powers := make([]int, api.MaxDot)
	for i := range powers {
		powers[i] = 1 << (api.MaxDot - 1 - i)
	}
	for total := 0; total < 1<<api.MaxDot; total += 1237 {
		got, e := hard.Sum(powers, total)
		if e != api.OK || sumOf(powers, got) != total || !slices.IsSorted(got) {
			t.Fatalf("powers of two, %d: %v, error %d", total, got, e)
		}
	}
	got, e := hard.Sum(slices.Repeat([]int{2}, api.MaxDot), 17)
	expectList(t, "even weights", got, e, nil, false)
	got, e = hard.Sum(make([]int, api.MaxDot), 1)
	expectList(t, "no weight at all", got, e, nil, false)
	got, e = hard.Sum(slices.Repeat([]int{api.MaxWeigh}, api.MaxDot), api.MaxDot*api.MaxWeigh)
	expectList(t, "the greatest weights", got, e, elements(1<<api.MaxDot-1), true)
}

// expectWeights wants the result of Weights to be as the chapter says.
func expectWeights(t *testing.T, vars int, l []api.Clause) {
	t.Helper()
	weights, total, e := hard.Weights(vars, l)
	if e != api.OK || len(weights) != 2*(vars+len(l)) {
		t.Fatalf("%d, %v: %v, error %d", vars, l, weights, e)
	}
	limit := 1
	for range vars + len(l) {
		limit *= 10
	}
	for _, w := range weights {
		if w < 0 || w >= limit {
			t.Fatalf("%d, %v: the weights %v", vars, l, weights)
		}
	}
	want := isSatisfiable(vars, l)
	if got := canSum(weights)[total]; got != want {
		t.Fatalf("%d, %v: some of %v add up to %d: %t; want %t", vars, l, weights, total, got, want)
	}
	if list, e := hard.Sum(weights, total); want && e != api.OK || !want && e != api.ErrNone || want && sumOf(weights, list) != total {
		t.Fatalf("%d, %v: %v of %v, error %d", vars, l, list, weights, e)
	}
}

func TestWeightsByHand(t *testing.T) {
	for vars := range api.MaxDigits + 1 {
		expectWeights(t, vars, nil)
		for n := range api.MaxDigits + 1 - vars {
			expectWeights(t, vars, make([]api.Clause, n))
		}
	}
	expectWeights(t, 1, []api.Clause{yes(0), no(0)})
	expectWeights(t, 1, []api.Clause{yes(0), {}, yes(0)})
	expectWeights(t, 1, slices.Repeat([]api.Clause{yes(0)}, 4))
	expectWeights(t, 1, slices.Repeat([]api.Clause{no(0, 0, 0)}, 4))
	expectWeights(t, 1, slices.Repeat([]api.Clause{some([]int{0, 0}, []int{0})}, 4))
	expectWeights(t, 2, []api.Clause{yes(0, 1), some([]int{0}, []int{1}), some([]int{1}, []int{0})})
	expectWeights(t, 4, []api.Clause{yes(1, 2, 3)})
}

// literals returns all clauses of up to three literals of so many variables.
func literals(vars int) []api.Clause {
	l := []api.Clause{{}}
	for i := 0; i < len(l); i++ {
		c := l[i]
		if len(c.Yes)+len(c.No) == 3 {
			continue
		}
		for v := range vars {
			// The lists grow in order, so that no clause comes twice.
			if len(c.No) == 0 && (len(c.Yes) == 0 || v >= slices.Max(c.Yes)) {
				l = append(l, some(append(slices.Clip(c.Yes), v), c.No))
			}
			if len(c.No) == 0 || v >= slices.Max(c.No) {
				l = append(l, some(c.Yes, append(slices.Clip(c.No), v)))
			}
		}
	}
	return l
}

// TestAllWeights goes through all clauses of up to three variables, and all pairs of them.
func TestAllWeights(t *testing.T) {
	for vars := range 4 {
		all := literals(vars)
		for _, one := range all {
			expectWeights(t, vars, []api.Clause{one})
			for _, other := range all {
				expectWeights(t, vars, []api.Clause{one, other})
			}
		}
	}
}

func TestWeights(t *testing.T) {
	var d dice
	solvable, rounds := 0, 0
	for vars := range api.MaxDigits + 1 {
		for range 1500 {
			l := d.clauses(vars, d.below(api.MaxDigits+1-vars))
			expectWeights(t, vars, l)
			rounds++
			if isSatisfiable(vars, l) {
				solvable++
			}
		}
	}
	if solvable < 100 || rounds-solvable < 100 {
		t.Errorf("%d of %d are satisfiable", solvable, rounds)
	}
}

// TestInPackage: clauses, their graph and their weights give the same answer, and a free set of the graph satisfies the clauses.
func TestInPackage(t *testing.T) {
	var d dice
	for round := range 2000 {
		vars := 1 + round%4
		l := d.clauses(vars, d.below(6))
		many, e := name.Many(vars, l)
		if e != api.OK {
			t.Fatalf("%v: error %d", l, e)
		}
		n, lines, e := hard.Dots(vars, l)
		if e != api.OK || n > api.MaxDot || len(l) > n {
			// A graph with fewer vertices than clauses belongs to an empty clause.
			if e != api.OK || len(l) > n && many != 0 {
				t.Fatalf("%v: %d vertices, %d solutions, error %d", l, n, many, e)
			}
			continue
		}
		free, e := hard.Free(n, lines, len(l))
		if want := many > 0; want != (e == api.OK) || !want && e != api.ErrNone {
			t.Fatalf("%v: %d solutions; free: %v, error %d", l, many, free, e)
		}
		if _, coverError := hard.Cover(n, lines, n-len(l)); coverError != e {
			t.Fatalf("%v: free: error %d; cover: error %d", l, e, coverError)
		}
		if vars+len(l) <= api.MaxDigits {
			weights, total, _ := hard.Weights(vars, l)
			if _, sumError := hard.Sum(weights, total); sumError != e {
				t.Fatalf("%v: free: error %d; sum: error %d", l, e, sumError)
			}
		}
	}
}

// TestIsRepeatable: a result does not depend on earlier calls, nor on what became of their results.
func TestIsRepeatable(t *testing.T) {
	var d dice
	for range 200 {
		l := d.clauses(3, 2)
		n, lines, _ := hard.Dots(3, l)
		free, e := hard.Free(n, lines, n/2)
		weights, total, _ := hard.Weights(3, l)
		sum, _ := hard.Sum(weights, total)
		keptLines, keptFree, keptWeights, keptSum := slices.Clone(lines), slices.Clone(free), slices.Clone(weights), slices.Clone(sum)
		clear(lines[:cap(lines)])
		clear(free[:cap(free)])
		clear(weights[:cap(weights)])
		clear(sum[:cap(sum)])
		if _, again, _ := hard.Dots(3, l); !slices.Equal(again, keptLines) {
			t.Fatalf("Dots: %v, and then %v", keptLines, again)
		}
		if again, e2 := hard.Free(n, keptLines, n/2); !slices.Equal(again, keptFree) || e2 != e {
			t.Fatalf("Free: %v, and then %v", keptFree, again)
		}
		if again, _, _ := hard.Weights(3, l); !slices.Equal(again, keptWeights) {
			t.Fatalf("Weights: %v, and then %v", keptWeights, again)
		}
		if again, _ := hard.Sum(keptWeights, total); !slices.Equal(again, keptSum) {
			t.Fatalf("Sum: %v, and then %v", keptSum, again)
		}
	}
}

// TestNothingIsChanged: the functions leave their arguments, and what lies behind these, as they are.
func TestNothingIsChanged(t *testing.T) {
	var d dice
	for range 300 {
		was := d.clauses(3, d.below(3))
		l := hide(was)
		wantN, want := modelDots(was)
		if n, lines, e := hard.Dots(3, l); e != api.OK || n != wantN || !slices.Equal(lines, want) {
			t.Fatalf("%v: %d, %v, error %d", was, n, lines, e)
		}
		if _, _, e := hard.Weights(3, l); e != api.OK {
			t.Fatalf("%v: error %d", was, e)
		}
		if !areSame(l, was) || !isHidden(l) {
			t.Fatalf("%v: an argument has changed", was)
		}
		graph := append(d.graph(6, 5), [2]int{9, 9})
		kept := slices.Clone(graph)
		compareGraph(t, 6, graph[:5])
		weights := []int{d.below(5), d.below(5), d.below(5), -1}
		keptWeights := slices.Clone(weights)
		wantSum, exists := smallest(3, func(list []int) bool { return sumOf(weights, list) == 4 })
		sum, e := hard.Sum(weights[:3], 4)
		expectList(t, "Sum", sum, e, wantSum, exists)
		if !slices.Equal(graph, kept) || !slices.Equal(weights, keptWeights) {
			t.Fatal("an argument has changed")
		}
	}
}

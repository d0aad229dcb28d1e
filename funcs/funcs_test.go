package funcs_test

import (
	"math"
	"slices"
	"testing"

	"tapeworks/api"
	"tapeworks/funcs"
)

// sum adds two numbers, the example of the shared test. It takes 2+3y calls for x and y.
func sum() []api.Func {
	return []api.Func{pick(1, 0), next(), pick(3, 2), of(3, 1, 2), again(2, 0, 3)}
}

// double multiplies x by 2 to the power of n.
func double() []api.Func {
	return append(sum(), of(3, 4, 2, 2), again(2, 0, 5))
}

// product multiplies two numbers.
func product() []api.Func {
	return append(sum(), pick(3, 0), of(3, 4, 2, 5), zero(1), again(2, 7, 6))
}

// volume multiplies three numbers.
func volume() []api.Func {
	return append(product(), pick(3, 1), of(3, 8, 5, 9), of(3, 8, 10, 2))
}

// difference subtracts the second number from the first, down to 0; its function 2 subtracts 1.
func difference() []api.Func {
	return []api.Func{zero(0), pick(2, 0), again(1, 0, 1), pick(3, 2), of(3, 2, 3), pick(1, 0), again(2, 5, 4)}
}

func TestValue(t *testing.T) {
	cases := []struct {
		name string
		l    []api.Func
		args []int
		want int
	}{
		{"zero of nothing", []api.Func{zero(0)}, nil, 0},
		{"zero of an empty list", []api.Func{zero(0)}, []int{}, 0},
		{"zero of four", []api.Func{zero(4)}, []int{1, 2, 3, 4}, 0},
		{"next of 0", []api.Func{next()}, []int{0}, 1},
		{"next of 3", []api.Func{next()}, []int{3}, 4},
		{"next of the greatest argument", []api.Func{next()}, []int{api.MaxCount}, api.MaxCount + 1},
		{"first of four", []api.Func{pick(4, 0)}, []int{5, 6, 7, 8}, 5},
		{"third of four", []api.Func{pick(4, 2)}, []int{5, 6, 7, 8}, 7},
		{"last of four", []api.Func{pick(4, 3)}, []int{5, 6, 7, 8}, 8},
		{"the last function counts", []api.Func{next(), zero(1), pick(1, 0)}, []int{5}, 5},

		{"next of next", []api.Func{next(), of(1, 0, 0)}, []int{5}, 7},
		{"next of a constant", []api.Func{next(), zero(0), of(0, 0, 1)}, nil, 1},
		{"a constant of some arguments", []api.Func{zero(0), next(), of(0, 1, 0), of(3, 2)}, []int{5, 6, 7}, 1},
		{"composition keeps the order", []api.Func{pick(2, 0), pick(2, 1), of(2, 0, 1, 0)}, []int{5, 6}, 6},
		{"composition, last of four", []api.Func{pick(1, 0), next(), zero(1), of(1, 1, 1), pick(4, 3), of(1, 4, 0, 1, 2, 3)}, []int{5}, 7},
		{"composition, third of four", []api.Func{pick(1, 0), next(), zero(1), of(1, 1, 1), pick(4, 2), of(1, 4, 0, 1, 2, 3)}, []int{5}, 0},

		{"recursion from 0", []api.Func{zero(0), pick(2, 0), again(1, 0, 1)}, []int{0}, 0},
		{"recursion counts from 0", []api.Func{zero(0), pick(2, 0), again(1, 0, 1)}, []int{1}, 0},
		{"recursion counts up to one less", []api.Func{zero(0), pick(2, 0), again(1, 0, 1)}, []int{api.MaxCount}, api.MaxCount - 1},
		{"recursion at 0 has the other arguments", []api.Func{pick(2, 1), zero(4), again(3, 0, 1)}, []int{5, 6, 0}, 6},
		{"recursion keeps the first argument", []api.Func{zero(2), pick(4, 0), again(3, 0, 1)}, []int{5, 6, 7}, 5},
		{"recursion keeps the second argument", []api.Func{zero(2), pick(4, 1), again(3, 0, 1)}, []int{5, 6, 7}, 6},
		{"recursion gives x before the result", []api.Func{pick(2, 1), pick(4, 2), again(3, 0, 1)}, []int{5, 6, 9}, 8},
		{"recursion gives the result last", []api.Func{pick(2, 1), pick(4, 3), again(3, 0, 1)}, []int{5, 6, 9}, 6},

		{"fields that a kind does not use", []api.Func{
			{Kind: api.FZero, Pick: 7, A: 7, B: 7, Into: []int{7, 7, 7, 7, 7}},
			{Kind: api.FNext, Args: 1, Pick: 7, A: 7, B: 7, Into: []int{7}},
			{Kind: api.FPick, Args: 2, Pick: 1, A: 7, B: 7, Into: []int{7}},
			{Kind: api.FOf, Args: 2, Pick: 7, A: 1, B: 7, Into: []int{2}},
			{Kind: api.FAgain, Args: 1, Pick: 7, A: 0, B: 3, Into: []int{7}},
		}, []int{9}, 9},
	}
	for _, c := range cases {
		if got, e := funcs.Value(c.l, c.args); e != api.OK || got != c.want {
			t.Errorf("%s: %d, error %d; want %d", c.name, got, e, c.want)
		}
	}
}

func TestValueOfKnownFunctions(t *testing.T) {
	for x := range api.MaxCount + 1 {
		for y := range api.MaxCount + 1 {
			if got, e := funcs.Value(sum(), []int{x, y}); e != api.OK || got != x+y {
				t.Errorf("%d + %d: %d, error %d", x, y, got, e)
			}
			if got, e := funcs.Value(product(), []int{x, y}); e != api.OK || got != x*y {
				t.Errorf("%d * %d: %d, error %d", x, y, got, e)
			}
			if got, e := funcs.Value(difference(), []int{x, y}); e != api.OK || got != max(x-y, 0) {
				t.Errorf("%d - %d: %d, error %d", x, y, got, e)
			}
		}
	}
}

func TestValueErrors(t *testing.T) {
	const high = api.MaxCount + 1
	cases := []struct {
		name string
		l    []api.Func
		args []int
		want api.Errno
	}{
		{"no functions before all else", nil, []int{-1}, api.ErrLarge},
		{"too many functions", slices.Repeat([]api.Func{next()}, api.MaxFuncs+1), []int{1}, api.ErrLarge},
		{"kind before the arguments", []api.Func{{}}, []int{-1}, api.ErrKind},
		{"an invalid function that is not used", []api.Func{pick(1, 1), next()}, []int{1}, api.ErrRange},
		{"no arguments", []api.Func{next()}, nil, api.ErrForm},
		{"an argument too few", []api.Func{zero(2)}, []int{1}, api.ErrForm},
		{"an argument too few, with room for it", []api.Func{zero(2)}, []int{1, 1}[:1], api.ErrForm},
		{"an argument too many", []api.Func{zero(2)}, []int{1, 1, 1}, api.ErrForm},
		{"an argument of none", []api.Func{zero(0)}, []int{1}, api.ErrForm},
		{"as many arguments as another function takes", []api.Func{zero(2), zero(1)}, []int{1, 1}, api.ErrForm},
		{"number of arguments before wrong ones", []api.Func{next()}, []int{-1, high}, api.ErrForm},
		{"argument below 0", []api.Func{zero(2)}, []int{0, -1}, api.ErrRange},
		{"argument too great", []api.Func{zero(2)}, []int{high, 0}, api.ErrRange},
		{"least argument", []api.Func{next()}, []int{math.MinInt}, api.ErrRange},
		{"greatest argument", []api.Func{next()}, []int{math.MaxInt}, api.ErrRange},
		{"wrong argument before a long evaluation", volume(), []int{20, 20, high}, api.ErrRange},
		{"long evaluation", volume(), []int{20, 20, 20}, api.ErrLong},
	}
	for _, c := range cases {
		if got, e := funcs.Value(c.l, c.args); e != c.want || got != 0 {
			t.Errorf("%s: %d, error %d; want error %d", c.name, got, e, c.want)
		}
	}
}

func TestValueTooGreat(t *testing.T) {
	lost := append(double(), zero(1), of(2, 7, 6))
	unpicked := append(double(), pick(2, 1), of(2, 7, 6, 7))
	overwritten := append(double(), of(1, 6, 0, 0), zero(3), again(2, 7, 8))
	skipped := append(double(), zero(0), pick(2, 0), zero(1), of(2, 6, 8, 8), again(1, 7, 10))
	unused := append(double(), of(2, 1, 6), next())
	cases := []struct {
		name string
		l    []api.Func
		args []int
		want int
		e    api.Errno
	}{
		{"the greatest value", volume(), []int{10, 10, 10}, api.MaxSmall, api.OK},
		{"one more", volume(), []int{7, 11, 13}, 0, api.ErrLong},
		{"a power below", double(), []int{1, 9}, 512, api.OK},
		{"a power beyond", double(), []int{1, 10}, 0, api.ErrLong},
		{"lost, below", lost, []int{1, 9}, 0, api.OK},
		{"lost, beyond", lost, []int{1, 10}, 0, api.ErrLong},
		{"not picked, below", unpicked, []int{1, 9}, 9, api.OK},
		{"not picked, beyond", unpicked, []int{1, 10}, 0, api.ErrLong},
		{"overwritten, below", overwritten, []int{7, 1}, 0, api.OK},
		{"overwritten, beyond", overwritten, []int{8, 1}, 0, api.ErrLong},
		{"in a step that is not taken", skipped, []int{0}, 0, api.OK},
		{"before the step at which it would be", skipped, []int{8}, 7 << 7, api.OK},
		{"in a step", skipped, []int{9}, 0, api.ErrLong},
		{"in a function that is not used", unused, []int{20}, 21, api.OK},
	}
	for _, c := range cases {
		if got, e := funcs.Value(c.l, c.args); e != c.e || got != c.want {
			t.Errorf("%s: %d, error %d; want %d, error %d", c.name, got, e, c.want, c.e)
		}
	}
}

// rounds nests loops: function 2 takes 2+i calls for n and i, and each of the functions 4, 6 and 8 takes 2+i*(3+c), if the one two before it takes c calls for n and n.
func rounds() []api.Func {
	return []api.Func{
		pick(1, 0), pick(3, 0), again(2, 0, 1),
		of(3, 2, 1, 1), again(2, 0, 3),
		of(3, 4, 1, 1), again(2, 0, 5),
		of(3, 6, 1, 1), again(2, 0, 7),
	}
}

// TestValueCalls: for 9 and 8, function 6 of rounds takes 1050 calls, and function 8 takes 9474. With two more for the composition itself and its A, this is MaxFuel.
func TestValueCalls(t *testing.T) {
	args := []int{9, 8}
	if got, e := funcs.Value(append(rounds(), of(2, 1, 8, 6, 8)), args); e != api.OK || got != 9 {
		t.Errorf("as many calls as there can be: %d, error %d", got, e)
	}
	if got, e := funcs.Value(append(rounds(), zero(4), zero(2), of(2, 9, 8, 6, 8, 10)), args); e != api.ErrLong || got != 0 {
		t.Errorf("one call too many: %d, error %d", got, e)
	}
	if got, e := funcs.Value(append(rounds(), of(2, 1, 8, 6, 8), of(2, 0, 9)), args); e != api.ErrLong || got != 0 {
		t.Errorf("two calls too many: %d, error %d", got, e)
	}
	if got, e := funcs.Value(rounds(), []int{20, 20}); e != api.ErrLong || got != 0 {
		t.Errorf("many calls: %d, error %d", got, e)
	}
}

func TestRank(t *testing.T) {
	high := func(l ...api.Func) []api.Func { return append([]api.Func{next(), of(1, 0, 0), of(1, 1, 0)}, l...) }
	chain := []api.Func{next()}
	for len(chain) < api.MaxFuncs {
		chain = append(chain, of(1, len(chain)-1, 0))
	}
	cases := []struct {
		name string
		l    []api.Func
		want int
	}{
		{"FZero", []api.Func{zero(0)}, 1},
		{"FNext", []api.Func{next()}, 1},
		{"FPick", []api.Func{pick(4, 2)}, 1},
		{"FOf", []api.Func{next(), of(1, 0, 0)}, 3},
		{"FOf, nothing into it", []api.Func{zero(0), of(1, 0)}, 3},
		{"FAgain", []api.Func{zero(0), pick(2, 1), again(1, 0, 1)}, 4},
		{"FOf, A is greatest", high(of(1, 2, 0)), 7},
		{"FOf, the first element is greatest", high(zero(2), of(1, 3, 2, 0)), 7},
		{"FOf, the last element is greatest", high(zero(4), of(1, 3, 0, 0, 1, 2)), 7},
		{"FOf, not the sum", high(of(1, 2, 2)), 7},
		{"FAgain, A is greater", high(zero(3), again(2, 2, 3)), 8},
		{"FAgain, B is greater", high(zero(0), zero(2), of(2, 2, 4), again(1, 3, 5)), 10},
		{"greater functions that are not used", high(zero(1)), 1},
		{"greater functions that are not used, of FOf", high(zero(1), of(1, 3, 0)), 3},
		{"the sum", sum(), 6},
		{"the product", product(), 11},
		{"the product of three", volume(), 15},
		{"the difference", difference(), 9},
		{"nested loops", rounds(), 19},
		{"a chain", chain, 1 + 2*(api.MaxFuncs-1)},
		{"fields that a kind does not use", []api.Func{
			zero(0), of(0, 0),
			{Kind: api.FPick, Args: 2, A: 1, B: 1, Into: []int{1}},
			{Kind: api.FAgain, Args: 1, A: 0, B: 2, Into: []int{1}},
		}, 4},
	}
	for _, c := range cases {
		if got, e := funcs.Rank(c.l); e != api.OK || got != c.want {
			t.Errorf("%s: %d, error %d; want %d", c.name, got, e, c.want)
		}
	}
}

func TestRankOfWrongLength(t *testing.T) {
	for _, l := range [][]api.Func{nil, {}, slices.Repeat([]api.Func{next()}, api.MaxFuncs+1)} {
		if got, e := funcs.Rank(l); e != api.ErrLarge || got != 0 {
			t.Errorf("%d functions: %d, error %d", len(l), got, e)
		}
	}
}

func TestAck(t *testing.T) {
	row := [api.MaxSigns + 1]func(n int) int{
		func(n int) int { return n + 1 },
		func(n int) int { return n + 2 },
		func(n int) int { return 2*n + 3 },
		func(n int) int { return 1<<(min(n, 20)+3) - 3 },
		func(n int) int { return 13 + min(n, 1)*65520 },
	}
	for m, value := range row {
		for n := range api.MaxSmall + 100 {
			want, wantError := value(n), api.OK
			if want > api.MaxSmall {
				want, wantError = 0, api.ErrLong
			}
			if got, e := funcs.Ack(m, n); e != wantError || got != want {
				t.Errorf("Ack(%d, %d): %d, error %d; want %d, error %d", m, n, got, e, want, wantError)
			}
		}
	}
}

func TestAckErrors(t *testing.T) {
	cases := []struct {
		m, n int
		want api.Errno
	}{
		{-1, 0, api.ErrRange},
		{0, -1, api.ErrRange},
		{-1, -1, api.ErrRange},
		{api.MaxSigns + 1, 0, api.ErrRange},
		{api.MaxSigns + 1, math.MaxInt, api.ErrRange},
		{api.MaxSigns, -1, api.ErrRange},
		{math.MinInt, 0, api.ErrRange},
		{math.MaxInt, 0, api.ErrRange},
		{0, math.MinInt, api.ErrRange},
		{-1, math.MaxInt, api.ErrRange},
		{0, api.MaxSmall, api.ErrLong},
		{0, math.MaxInt, api.ErrLong},
		{1, math.MaxInt, api.ErrLong},
		{2, math.MaxInt, api.ErrLong},
		{3, math.MaxInt, api.ErrLong},
		{4, math.MaxInt, api.ErrLong},
		{2, math.MaxInt / 2, api.ErrLong},
		{3, 62, api.ErrLong},
		{4, 1, api.ErrLong},
	}
	for _, c := range cases {
		if got, e := funcs.Ack(c.m, c.n); e != c.want || got != 0 {
			t.Errorf("Ack(%d, %d): %d, error %d; want error %d", c.m, c.n, got, e, c.want)
		}
	}
}

func TestArgumentsStayAsTheyAre(t *testing.T) {
	into := []int{1, 0, 9, 9}
	l := []api.Func{pick(2, 0), pick(2, 1), of(2, 0, into[:2]...), pick(1, 0), zero(3), again(2, 3, 4), {Kind: 9}}
	want := slices.Clone(l)
	args := []int{3, 4, 9, 9}
	for n := 1; n < len(l); n++ {
		funcs.Check(l[:n])
		funcs.Rank(l[:n])
		funcs.Value(l[:n], args[:l[n-1].Args])
	}
	if !slices.Equal(args, []int{3, 4, 9, 9}) || !slices.Equal(into, []int{1, 0, 9, 9}) {
		t.Errorf("the arguments became %v, and Into %v", args, into)
	}
	for i, f := range l {
		if !slices.Equal(f.Into, want[i].Into) || f.Kind != want[i].Kind || f.Args != want[i].Args || f.A != want[i].A || f.B != want[i].B {
			t.Errorf("function %d became %v", i, f)
		}
	}
}

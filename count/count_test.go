package count_test

import (
	"math"
	"slices"
	"testing"

	"tapeworks/api"
	"tapeworks/count"
)

// shift moves the value of counter 0 to counter 1: the example of the chapter.
func shift() []api.Order {
	return []api.Order{less(0, 1, 2), more(1, 0)}
}

func TestRun(t *testing.T) {
	grow := []api.Order{more(0, 0)}
	full := slices.Repeat([]int{api.MaxCount}, api.MaxCounts)
	double := []api.Order{less(0, 1, 3), more(1, 2), more(1, 0), less(1, 4, 5), more(0, 3)}
	chain := make([]api.Order, api.MaxOrders)
	for i := range chain {
		chain[i] = more(i%api.MaxCounts, i+1)
	}
	cases := []struct {
		name     string
		counters int
		l        []api.Order
		have     []int
		turns    int
		want     []int
		at, done int
	}{
		{"moves a value", 2, shift(), []int{3, 1}, 100, []int{0, 4}, 2, 7},
		{"moves a value, just enough turns", 2, shift(), []int{3, 1}, 7, []int{0, 4}, 2, 7},
		{"moves a value, one turn too few", 2, shift(), []int{3, 1}, 6, []int{0, 4}, 0, 6},
		{"moves a value, cut off between", 2, shift(), []int{3, 1}, 3, []int{1, 2}, 1, 3},
		{"moves nothing", 2, shift(), []int{0, 5}, 100, []int{0, 5}, 2, 1},
		{"no turn", 2, shift(), []int{3, 1}, 0, []int{3, 1}, 0, 0},
		{"one more", 1, []api.Order{more(0, 1)}, []int{0}, 9, []int{1}, 1, 1},
		{"one more, from the greatest value", 1, []api.Order{more(0, 1)}, []int{api.MaxCount}, 9, []int{api.MaxCount + 1}, 1, 1},
		{"grows beyond all initial values", 1, grow, []int{api.MaxCount}, api.MaxTurns, []int{api.MaxCount + api.MaxTurns}, 0, api.MaxTurns},
		{"one less", 1, []api.Order{less(0, 1, 0)}, []int{2}, 1, []int{1}, 1, 1},
		{"one less, down to 0", 1, []api.Order{less(0, 1, 0)}, []int{1}, 9, []int{0}, 1, 1},
		{"less than 0 goes on at Zero", 1, []api.Order{less(0, 0, 1)}, []int{2}, 9, []int{0}, 1, 3},
		{"turns in place at 0", 1, []api.Order{less(0, 1, 0)}, []int{0}, api.MaxTurns, []int{0}, 0, api.MaxTurns},
		{"halts at once at 0", 1, []api.Order{less(0, 0, 1)}, []int{0}, 9, []int{0}, 1, 1},
		{"skips instructions", 2, []api.Order{more(0, 2), more(1, 3), less(1, 1, 3)}, []int{0, 0}, 9, []int{1, 0}, 3, 2},
		{"goes back", 2, []api.Order{more(0, 2), more(1, 3), less(1, 0, 1)}, []int{0, 1}, 9, []int{2, 1}, 3, 5},
		{"doubles", 2, double, []int{4, 0}, 100, []int{8, 0}, 5, 30},
		{"doubles, within the second loop", 2, double, []int{4, 0}, 15, []int{1, 7}, 3, 15},
		{"all counters, one value each", 4, []api.Order{more(2, 1), less(3, 2, 0), more(0, 3)}, []int{5, 6, 7, 8}, 9, []int{6, 6, 8, 7}, 3, 3},
		{"all instructions in a row", 4, chain, full, api.MaxTurns, slices.Repeat([]int{api.MaxCount + 3}, 4), api.MaxOrders, api.MaxOrders},
		{"CMore ignores Zero", 1, []api.Order{{Kind: api.CMore, Next: 1, Zero: -7}}, []int{0}, 9, []int{1}, 1, 1},
	}
	for _, c := range cases {
		got, at, done, e := count.Run(c.counters, c.l, c.have, c.turns)
		if e != api.OK || at != c.at || done != c.done || !slices.Equal(got, c.want) {
			t.Errorf("%s: %v at %d, %d turns, error %d; want %v at %d, %d turns", c.name, got, at, done, e, c.want, c.at, c.done)
		}
	}
}

func TestRunErrors(t *testing.T) {
	ok := []api.Order{more(0, 1)}
	const high = api.MaxCount + 1
	cases := []struct {
		name     string
		counters int
		l        []api.Order
		have     []int
		turns    int
		want     api.Errno
	}{
		{"no counters before all else", 0, []api.Order{{}}, []int{-1, -1}, -1, api.ErrLarge},
		{"too many counters", api.MaxCounts + 1, ok, make([]int, api.MaxCounts+1), 1, api.ErrLarge},
		{"no instructions before all else", 1, nil, nil, -1, api.ErrLarge},
		{"too many instructions", 1, slices.Repeat(ok, api.MaxOrders+1), []int{0}, 1, api.ErrLarge},
		{"kind before the values", 1, []api.Order{{}}, []int{-1, -1}, -1, api.ErrKind},
		{"counter before the values", 1, []api.Order{more(1, 0)}, []int{-1, -1}, -1, api.ErrArg},
		{"target before the values", 1, []api.Order{less(0, 0, 2)}, []int{-1}, -1, api.ErrForm},
		{"an invalid instruction that is not reached", 1, []api.Order{more(0, 2), {}}, []int{0}, 1, api.ErrKind},
		{"no values", 1, ok, nil, 1, api.ErrForm},
		{"a value too few", 2, ok, []int{0}, 1, api.ErrForm},
		{"a value too few, with room for it", 2, ok, []int{0, 0}[:1], 1, api.ErrForm},
		{"a value too many", 2, ok, []int{0, 0, 0}, 1, api.ErrForm},
		{"number of values before wrong values", 1, ok, []int{-1, high}, -1, api.ErrForm},
		{"value below 0", 2, ok, []int{0, -1}, 1, api.ErrRange},
		{"value too great", 2, ok, []int{high, 0}, 1, api.ErrRange},
		{"least value", 1, ok, []int{math.MinInt}, 1, api.ErrRange},
		{"greatest value", 1, ok, []int{math.MaxInt}, 1, api.ErrRange},
		{"wrong value before a wrong number of turns", 2, ok, []int{0, high}, -1, api.ErrRange},
		{"turns below 0", 1, ok, []int{0}, -1, api.ErrLong},
		{"too many turns", 1, ok, []int{0}, api.MaxTurns + 1, api.ErrLong},
		{"least number of turns", 1, ok, []int{0}, math.MinInt, api.ErrLong},
		{"greatest number of turns", 1, ok, []int{0}, math.MaxInt, api.ErrLong},
	}
	for _, c := range cases {
		got, at, done, e := count.Run(c.counters, c.l, c.have, c.turns)
		if e != c.want || len(got) != 0 || at != 0 || done != 0 {
			t.Errorf("%s: %v at %d, %d turns, error %d; want error %d", c.name, got, at, done, e, c.want)
		}
	}
}

func TestArgumentsStayAsTheyAre(t *testing.T) {
	orders := append(shift(), api.Order{Kind: 9})
	room := []int{3, 1, 9, 9}
	count.Check(2, orders[:2])
	count.Run(2, orders[:2], room[:2], 100)
	if !slices.Equal(room, []int{3, 1, 9, 9}) {
		t.Errorf("the values became %v", room)
	}
	if want := append(shift(), api.Order{Kind: 9}); !slices.Equal(orders, want) {
		t.Errorf("the instructions became %v", orders)
	}
}

func TestResultsAreNew(t *testing.T) {
	for _, turns := range []int{0, 1, api.MaxTurns} {
		have := []int{3, 1}
		first, _, _, _ := count.Run(2, shift(), have, turns)
		want := slices.Clone(first)
		first[0], first[1] = -7, -8
		if !slices.Equal(have, []int{3, 1}) {
			t.Errorf("%d turns: the result shares the memory of the initial values", turns)
		}
		if again, _, _, _ := count.Run(2, shift(), have, turns); !slices.Equal(again, want) {
			t.Errorf("%d turns: a result depends on an earlier call: %v, want %v", turns, again, want)
		}
	}
}

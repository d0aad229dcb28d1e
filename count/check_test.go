package count_test

import (
	"math"
	"slices"
	"testing"

	"tapeworks/api"
	"tapeworks/count"
)

func more(counter, next int) api.Order {
	return api.Order{Kind: api.CMore, Counter: counter, Next: next}
}

func less(counter, next, zero int) api.Order {
	return api.Order{Kind: api.CLess, Counter: counter, Next: next, Zero: zero}
}

func TestCheckAcceptsEverySize(t *testing.T) {
	for counters := 1; counters <= api.MaxCounts; counters++ {
		for length := 1; length <= api.MaxOrders; length++ {
			for _, order := range []api.Order{
				more(0, 0), more(counters-1, length), more(0, length-1),
				less(0, 0, length), less(counters-1, length, 0), less(0, length-1, length-1),
			} {
				l := slices.Repeat([]api.Order{order}, length)
				if e := count.Check(counters, l); e != api.OK {
					t.Errorf("%d counters, %d times %v: error %d", counters, length, order, e)
				}
			}
		}
	}
}

func TestCheckSize(t *testing.T) {
	wrong := api.Order{Kind: 9, Counter: -1, Next: -1, Zero: -1}
	cases := []struct {
		name     string
		counters int
		l        []api.Order
	}{
		{"no counters", 0, []api.Order{more(0, 0)}},
		{"counters below 0", -1, []api.Order{more(0, 0)}},
		{"too many counters", api.MaxCounts + 1, []api.Order{more(0, 0)}},
		{"least number of counters", math.MinInt, []api.Order{more(0, 0)}},
		{"greatest number of counters", math.MaxInt, []api.Order{more(0, 0)}},
		{"no instructions", 1, nil},
		{"an empty list of instructions", 1, []api.Order{}},
		{"no instructions within the length", 1, []api.Order{more(0, 0)}[:0]},
		{"one instruction too many", 1, slices.Repeat([]api.Order{more(0, 0)}, api.MaxOrders+1)},
		{"counters before a wrong instruction", 0, []api.Order{wrong}},
		{"length before a wrong instruction", 1, slices.Repeat([]api.Order{wrong}, api.MaxOrders+1)},
	}
	for _, c := range cases {
		if e := count.Check(c.counters, c.l); e != api.ErrLarge {
			t.Errorf("%s: error %d", c.name, e)
		}
	}
}

// TestCheckOrders puts one instruction at each place of a machine of two counters and three instructions.
func TestCheckOrders(t *testing.T) {
	cases := []struct {
		order api.Order
		want  api.Errno
	}{
		{more(0, 0), api.OK},
		{more(1, 3), api.OK},
		{less(0, 3, 0), api.OK},
		{less(1, 0, 3), api.OK},
		{api.Order{}, api.ErrKind},
		{api.Order{Kind: api.CLess + 1}, api.ErrKind},
		{api.Order{Kind: -1}, api.ErrKind},
		{api.Order{Kind: math.MinInt}, api.ErrKind},
		{api.Order{Kind: math.MaxInt}, api.ErrKind},
		{api.Order{Kind: 3, Counter: 2, Next: 4, Zero: 4}, api.ErrKind},
		{more(-1, 0), api.ErrArg},
		{more(2, 0), api.ErrArg},
		{more(math.MinInt, 0), api.ErrArg},
		{more(math.MaxInt, 0), api.ErrArg},
		{more(2, 4), api.ErrArg},
		{less(-1, 0, 0), api.ErrArg},
		{less(2, 0, 0), api.ErrArg},
		{less(2, 4, 4), api.ErrArg},
		{more(0, -1), api.ErrForm},
		{more(0, 4), api.ErrForm},
		{more(0, math.MinInt), api.ErrForm},
		{more(0, math.MaxInt), api.ErrForm},
		{less(0, -1, 0), api.ErrForm},
		{less(0, 4, 0), api.ErrForm},
		{less(0, 0, -1), api.ErrForm},
		{less(0, 0, 4), api.ErrForm},
		{less(0, 0, math.MinInt), api.ErrForm},
		{less(0, 0, math.MaxInt), api.ErrForm},
		{less(0, 4, 4), api.ErrForm},
		// CMore does not use Zero.
		{api.Order{Kind: api.CMore, Zero: -1}, api.OK},
		{api.Order{Kind: api.CMore, Zero: 4}, api.OK},
		{api.Order{Kind: api.CMore, Zero: math.MaxInt}, api.OK},
	}
	for _, c := range cases {
		for place := range 3 {
			l := slices.Repeat([]api.Order{more(0, 0)}, 3)
			l[place] = c.order
			if e := count.Check(2, l); e != c.want {
				t.Errorf("%v at %d: error %d, want %d", c.order, place, e, c.want)
			}
		}
	}
}

func TestCheckFirstInvalidOrder(t *testing.T) {
	badKind, badCounter, badNext, badZero := api.Order{}, more(1, 0), more(0, 4), less(0, 0, 4)
	cases := []struct {
		l    []api.Order
		want api.Errno
	}{
		{[]api.Order{badKind, badCounter, badNext}, api.ErrKind},
		{[]api.Order{badCounter, badKind, badNext}, api.ErrArg},
		{[]api.Order{badNext, badKind, badCounter}, api.ErrForm},
		{[]api.Order{badZero, badCounter, badKind}, api.ErrForm},
		{[]api.Order{more(0, 1), badZero, badKind}, api.ErrForm},
		{[]api.Order{more(0, 1), badCounter, badKind}, api.ErrArg},
		{[]api.Order{less(0, 1, 3), badKind, badNext}, api.ErrKind},
		{[]api.Order{less(0, 1, 3), more(0, 3), badCounter}, api.ErrArg},
	}
	for _, c := range cases {
		if e := count.Check(1, c.l); e != c.want {
			t.Errorf("%v: error %d, want %d", c.l, e, c.want)
		}
	}
}

// TestCheckCountsOnlyTheLength: instructions beyond the length are no targets.
func TestCheckCountsOnlyTheLength(t *testing.T) {
	room := []api.Order{more(0, 2), {Kind: 9}}
	if e := count.Check(1, room[:1]); e != api.ErrForm {
		t.Errorf("a jump beyond the length: error %d", e)
	}
	room[0].Next = 1
	if e := count.Check(1, room[:1]); e != api.OK {
		t.Errorf("a wrong instruction beyond the length: error %d", e)
	}
}

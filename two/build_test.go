package two_test

import (
	"math"
	"slices"
	"testing"

	"tapeworks/api"
	"tapeworks/count"
	"tapeworks/two"
)

// compile builds a machine and checks that the compiled one is a machine of two counters with a start for every instruction.
func compile(t *testing.T, counters int, l []api.Order) ([]api.Order, []int) {
	t.Helper()
	code, starts, e := two.Build(counters, l)
	if e != api.OK {
		t.Fatalf("%d counters, %v: error %d", counters, l, e)
	}
	if len(starts) != len(l)+1 || starts[len(l)] != len(code) {
		t.Fatalf("%d counters, %v: starts %v for %d compiled instructions", counters, l, starts, len(code))
	}
	seen := map[int]bool{}
	for _, start := range starts {
		if start < 0 || start > len(code) || seen[start] {
			t.Fatalf("%d counters, %v: start %d of %v", counters, l, start, starts)
		}
		seen[start] = true
	}
	isTarget := func(n int) bool { return 0 <= n && n <= len(code) }
	for i, order := range code {
		isKnown := order.Kind == api.CMore || order.Kind == api.CLess
		isOurs := order.Counter == 0 || order.Counter == 1
		if !isKnown || !isOurs || !isTarget(order.Next) || !isTarget(order.Zero) {
			t.Fatalf("%d counters, %v: compiled instruction %d is %v", counters, l, i, order)
		}
	}
	return code, starts
}

// checkTurn holds the code of one instruction against the instruction, from the given values on.
func checkTurn(t *testing.T, l, code []api.Order, starts []int, at int, values []int) {
	t.Helper()
	after, next := turn(l[at], values)
	n := encode(values)
	got, ok := follow(code, starts, starts[at], n)
	if !ok || got.at != starts[next] || got.n != encode(after) {
		t.Fatalf("instruction %d of %v with %v, that is %d: %v, %v; want %d at %d", at, l, values, n, got, ok, encode(after), starts[next])
	}
}

func TestBuildExamples(t *testing.T) {
	code, starts := compile(t, 1, []api.Order{more(0, 1)})
	if len(starts) != 2 || starts[1] != len(code) {
		t.Errorf("one CMore: starts %v for %d instructions", starts, len(code))
	}
	if got, ok := follow(code, starts, starts[0], 8); !ok || got.n != 16 || got.at != len(code) {
		t.Errorf("one CMore, from 8: %v, %v", got, ok)
	}
	code, starts = compile(t, 2, []api.Order{less(1, 0, 1)})
	if got, ok := follow(code, starts, starts[0], 24); !ok || got.n != 8 || got.at != starts[0] {
		t.Errorf("one CLess, from 24: %v, %v", got, ok)
	}
	if got, ok := follow(code, starts, starts[0], 8); !ok || got.n != 8 || got.at != len(code) {
		t.Errorf("one CLess, from 8: %v, %v", got, ok)
	}
}

// TestBuildEveryOrder compiles each instruction, with each of its targets, between two others.
func TestBuildEveryOrder(t *testing.T) {
	for counters := 1; counters <= api.MaxCounts; counters++ {
		some := allValues(counters, 250)
		l := []api.Order{more(0, 3), {}, less(counters-1, 2, 0)}
		choice := make([]int, 2)
		for another := true; another; another = nextValues(choice, 3) {
			for counter := range counters {
				for _, order := range []api.Order{more(counter, choice[0]), less(counter, choice[0], choice[1])} {
					l[1] = order
					code, starts := compile(t, counters, l)
					for _, values := range some {
						checkTurn(t, l, code, starts, 1, values)
					}
				}
			}
		}
	}
}

// TestBuildSmallNumbers: at 1, and below the prime of a counter, there is nothing to divide.
func TestBuildSmallNumbers(t *testing.T) {
	for counter := range api.MaxCounts {
		l := []api.Order{less(counter, 0, 1), more(counter, 2)}
		code, starts := compile(t, api.MaxCounts, l)
		for _, values := range allValues(api.MaxCounts, 10) {
			checkTurn(t, l, code, starts, 0, values)
			checkTurn(t, l, code, starts, 1, values)
		}
	}
}

// TestBuildGreatNumbers: the number of steps stays below the bound where one counter is great.
func TestBuildGreatNumbers(t *testing.T) {
	for _, values := range [][]int{{20, 0, 0, 0}, {0, 12, 0, 0}, {0, 0, 8, 0}, {0, 0, 0, 7}, {4, 4, 2, 1}, {2, 2, 2, 2}} {
		for counter := range api.MaxCounts {
			l := []api.Order{less(counter, 0, 1), more(counter, 2)}
			code, starts := compile(t, api.MaxCounts, l)
			checkTurn(t, l, code, starts, 0, values)
			checkTurn(t, l, code, starts, 1, values)
		}
	}
}

// TestBuildArbitraryMachines executes every instruction of machines of all sizes.
func TestBuildArbitraryMachines(t *testing.T) {
	s := numbers(1)
	for range 300 {
		counters := 1 + s.below(api.MaxCounts)
		l := s.orders(counters)
		code, starts := compile(t, counters, l)
		for _, values := range allValues(counters, 60) {
			for at := range l {
				checkTurn(t, l, code, starts, at, values)
			}
		}
	}
}

// TestBuildFollowsRuns holds whole runs of compiled machines against count.Run, as long as the encoding is small.
func TestBuildFollowsRuns(t *testing.T) {
	s := numbers(2)
	halted := 0
	for range 400 {
		counters := 1 + s.below(api.MaxCounts)
		l := s.orders(counters)
		some := allValues(counters, 100)
		have := some[s.below(len(some))]
		code, starts := compile(t, counters, l)
		now := pass{at: starts[0], n: encode(have)}
		for turns := 1; turns <= 40 && now.at < len(code) && now.n < 5000; turns++ {
			next, ok := follow(code, starts, now.at, now.n)
			want, at, _, e := count.Run(counters, l, have, turns)
			if !ok || e != api.OK || next.at != starts[at] || next.n != encode(want) {
				t.Fatalf("%v with %v, after %d turns: %v, %v; want %v at %d, error %d", l, have, turns, next, ok, want, at, e)
			}
			now = next
		}
		if now.at == len(code) {
			halted++
		}
	}
	if halted < 50 {
		t.Errorf("only %d runs halted", halted)
	}
}

func TestBuildGreatestMachine(t *testing.T) {
	for _, kind := range []int{api.CMore, api.CLess} {
		l := make([]api.Order, api.MaxOrders)
		for i := range l {
			l[i] = api.Order{Kind: kind, Counter: api.MaxCounts - 1, Next: i + 1, Zero: api.MaxOrders - i}
		}
		code, starts := compile(t, api.MaxCounts, l)
		for at := range l {
			checkTurn(t, l, code, starts, at, []int{1, 1, 1, 0})
			checkTurn(t, l, code, starts, at, []int{0, 1, 0, 2})
		}
	}
}

func TestBuildErrors(t *testing.T) {
	cases := []struct {
		name     string
		counters int
		l        []api.Order
		want     api.Errno
	}{
		{"no counters", 0, []api.Order{more(0, 0)}, api.ErrLarge},
		{"counters below 0", math.MinInt, []api.Order{more(0, 0)}, api.ErrLarge},
		{"too many counters", api.MaxCounts + 1, []api.Order{more(0, 0)}, api.ErrLarge},
		{"greatest number of counters", math.MaxInt, []api.Order{more(0, 0)}, api.ErrLarge},
		{"no instructions", 1, nil, api.ErrLarge},
		{"an empty list of instructions", 1, []api.Order{}, api.ErrLarge},
		{"too many instructions", 1, slices.Repeat([]api.Order{more(0, 0)}, api.MaxOrders+1), api.ErrLarge},
		{"size before a wrong instruction", 0, []api.Order{{}}, api.ErrLarge},
		{"no kind", 1, []api.Order{{}}, api.ErrKind},
		{"kind before the counter", 1, []api.Order{{Kind: 3, Counter: 9, Next: 9}}, api.ErrKind},
		{"no such counter", 2, []api.Order{more(2, 0)}, api.ErrArg},
		{"counter below 0", 2, []api.Order{less(-1, 0, 0)}, api.ErrArg},
		{"counter before the targets", 2, []api.Order{less(2, 9, 9)}, api.ErrArg},
		{"Next below 0", 1, []api.Order{more(0, -1)}, api.ErrForm},
		{"Next too great", 1, []api.Order{more(0, 2)}, api.ErrForm},
		{"Zero below 0", 1, []api.Order{less(0, 0, -1)}, api.ErrForm},
		{"Zero too great", 1, []api.Order{less(0, 0, 2)}, api.ErrForm},
		{"the first invalid instruction", 1, []api.Order{more(0, 1), less(0, 0, 9), {}}, api.ErrForm},
		{"an instruction that is not reached", 1, []api.Order{more(0, 2), {}}, api.ErrKind},
	}
	for _, c := range cases {
		code, starts, e := two.Build(c.counters, c.l)
		if e != c.want || len(code) != 0 || len(starts) != 0 {
			t.Errorf("%s: %v, %v, error %d; want error %d", c.name, code, starts, e, c.want)
		}
	}
}

func TestBuildIgnoresZeroOfMore(t *testing.T) {
	want, wantStarts := compile(t, 1, []api.Order{more(0, 1)})
	for _, zero := range []int{-1, 1, 2, math.MinInt, math.MaxInt} {
		code, starts := compile(t, 1, []api.Order{{Kind: api.CMore, Next: 1, Zero: zero}})
		if !slices.Equal(code, want) || !slices.Equal(starts, wantStarts) {
			t.Errorf("Zero %d: %v, %v; want %v, %v", zero, code, starts, want, wantStarts)
		}
	}
}

func TestBuildReadsOnly(t *testing.T) {
	room := []api.Order{less(0, 1, 2), more(1, 0), {Kind: 9}}
	before := slices.Clone(room)
	_, starts := compile(t, 2, room[:2])
	if len(starts) != 3 {
		t.Errorf("instructions beyond the length count: starts %v", starts)
	}
	if !slices.Equal(room, before) {
		t.Errorf("the instructions became %v", room)
	}
}

func TestBuildReturnsNewLists(t *testing.T) {
	l := []api.Order{less(0, 1, 2), more(1, 0)}
	code, starts := compile(t, 2, l)
	wantCode, wantStarts := slices.Clone(code), slices.Clone(starts)
	clear(code)
	clear(starts)
	againCode, againStarts := compile(t, 2, l)
	if !slices.Equal(againCode, wantCode) || !slices.Equal(againStarts, wantStarts) {
		t.Errorf("a result depends on an earlier one: %v, %v", againCode, againStarts)
	}
	if !slices.Equal(l, []api.Order{less(0, 1, 2), more(1, 0)}) {
		t.Errorf("a result shares the memory of the instructions: %v", l)
	}
}

package count_test

import (
	"slices"
	"testing"

	"tapeworks/api"
	"tapeworks/count"
)

// numbers makes a fixed sequence of numbers that looks arbitrary.
type numbers uint64

// below returns the next number that is at least 0 and less than n.
func (s *numbers) below(n int) int {
	*s = *s*6364136223846793005 + 1442695040888963407
	return int(*s>>33) % n
}

// orders makes a machine that halts seldom enough to run for long.
func (s *numbers) orders(counters int) []api.Order {
	l := make([]api.Order, 1+s.below(api.MaxOrders))
	target := func() int {
		if s.below(12) == 0 {
			return len(l)
		}
		return s.below(len(l))
	}
	for i := range l {
		l[i] = api.Order{Kind: api.CMore + s.below(2), Counter: s.below(counters), Next: target(), Zero: target()}
	}
	return l
}

func (s *numbers) values(counters int) []int {
	var list []int
	for range counters {
		list = append(list, s.below(api.MaxCount+1))
	}
	return list
}

// state is all that a run goes on from; counters that a machine lacks stay 0.
type state struct {
	values   [api.MaxCounts]int
	at, done int
}

// model follows a run by calling itself for each instruction.
func model(l []api.Order, now state, turns int) state {
	if turns == 0 || now.at == len(l) {
		return now
	}
	order := l[now.at]
	value := &now.values[order.Counter]
	now.at = order.Next
	switch {
	case order.Kind == api.CMore:
		*value += 1
	case *value > 0:
		*value -= 1
	default:
		now.at = order.Zero
	}
	now.done++
	return model(l, now, turns-1)
}

func TestRunAgreesWithModel(t *testing.T) {
	s := numbers(1)
	for range 5000 {
		counters := 1 + s.below(api.MaxCounts)
		l, have, turns := s.orders(counters), s.values(counters), s.below(api.MaxTurns+1)
		var start state
		copy(start.values[:], have)
		want := model(l, start, turns)
		got, at, done, e := count.Run(counters, l, have, turns)
		if e != api.OK || at != want.at || done != want.done || !slices.Equal(got, want.values[:counters]) {
			t.Fatalf("%v with %v, %d turns: %v at %d, %d turns, error %d; want %v", l, have, turns, got, at, done, e, want)
		}
	}
}

// TestRunInParts: a run that is cut off after each turn passes through the same counters as a longer one.
func TestRunInParts(t *testing.T) {
	s := numbers(2)
	for range 200 {
		counters := 1 + s.below(api.MaxCounts)
		l, have := s.orders(counters), s.values(counters)
		var now state
		copy(now.values[:], have)
		for turns := range 60 {
			got, at, done, e := count.Run(counters, l, have, turns)
			if e != api.OK || at != now.at || done != now.done || !slices.Equal(got, now.values[:counters]) {
				t.Fatalf("%v with %v, %d turns: %v at %d, %d turns, error %d; want %v", l, have, turns, got, at, done, e, now)
			}
			now = model(l, now, 1)
		}
	}
}

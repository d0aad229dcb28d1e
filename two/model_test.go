package two_test

import (
	"slices"

	"tapeworks/api"
)

func more(counter, next int) api.Order {
	return api.Order{Kind: api.CMore, Counter: counter, Next: next}
}

func less(counter, next, zero int) api.Order {
	return api.Order{Kind: api.CLess, Counter: counter, Next: next, Zero: zero}
}

// encode works out the encoding by its definition, for values whose encoding fits.
func encode(values []int) int64 {
	n := int64(1)
	for i, value := range values {
		for range value {
			n *= []int64{2, 3, 5, 7}[i]
		}
	}
	return n
}

// nextValues changes the values to the next ones in a row of all that are at most high; after the last it returns false.
func nextValues(values []int, high int) bool {
	for i := range values {
		if values[i] < high {
			values[i]++
			return true
		}
		values[i] = 0
	}
	return false
}

// allValues lists all counter values whose encoding is at most high.
func allValues(counters int, high int64) [][]int {
	list := [][]int{make([]int, counters)}
	for i := range counters {
		for at := 0; at < len(list); at++ {
			grown := slices.Clone(list[at])
			grown[i]++
			if encode(grown) <= high {
				list = append(list, grown)
			}
		}
	}
	return list
}

// numbers makes a fixed sequence of numbers that looks arbitrary.
type numbers uint64

// below returns the next number that is at least 0 and less than n.
func (s *numbers) below(n int) int {
	*s = *s*6364136223846793005 + 1442695040888963407
	return int(*s>>33) % n
}

// orders makes a machine of which about half the instructions are CLess, so that many values stay small for long.
func (s *numbers) orders(counters int) []api.Order {
	l := make([]api.Order, 1+s.below(api.MaxOrders))
	for i := range l {
		l[i] = api.Order{Kind: api.CMore + s.below(2), Counter: s.below(counters), Next: s.below(len(l) + 1), Zero: s.below(len(l) + 1)}
	}
	return l
}

// turn executes one instruction on a copy of the values, and tells where the machine continues.
func turn(order api.Order, values []int) ([]int, int) {
	values = slices.Clone(values)
	switch {
	case order.Kind == api.CMore:
		values[order.Counter]++
	case values[order.Counter] > 0:
		values[order.Counter]--
	default:
		return values, order.Zero
	}
	return values, order.Next
}

// pass is where a compiled machine is, with 0 in counter 1, and how many instructions brought it there.
type pass struct {
	at    int
	n     int64
	steps int64
}

// follow runs a compiled machine from the start of some code, with n in counter 0, to the next start or halt with 0 in counter 1. It tells whether this took at most 100*n + 100 instructions.
func follow(code []api.Order, starts []int, at int, n int64) (pass, bool) {
	isStart := make([]bool, len(code)+1)
	for _, start := range starts {
		isStart[start] = true
	}
	have := [2]int64{n, 0}
	for steps := int64(1); steps <= 100*n+100; steps++ {
		if at == len(code) {
			return pass{}, false
		}
		order := code[at]
		at = order.Next
		switch {
		case order.Kind == api.CMore:
			have[order.Counter]++
		case have[order.Counter] > 0:
			have[order.Counter]--
		default:
			at = order.Zero
		}
		if isStart[at] && have[1] == 0 {
			return pass{at, have[0], steps}, true
		}
	}
	return pass{}, false
}

package busy_test

import (
	"math"
	"testing"

	"tapeworks/api"
	"tapeworks/busy"
)

// most is what busy.Most returns.
type most struct {
	steps, ones, count int
	err                api.Errno
}

func mostOf(states, steps int) most {
	a, b, c, e := busy.Most(states, steps)
	return most{a, b, c, e}
}

func TestMost(t *testing.T) {
	cases := []struct {
		states, steps int
		want          most
	}{
		// With one state, the machine halts at once or reads blanks forever.
		{1, 0, most{}},
		{1, 1, most{steps: 1, ones: 1, count: 32}},
		{1, 3, most{steps: 1, ones: 1, count: 32}},
		{1, api.MaxSteps, most{steps: 1, ones: 1, count: 32}},
		// With two states, a third of the rules halt: a third of the machines with their first rule, and a ninth of them by way of the other state, whose rule for a blank halts.
		{2, 0, most{}},
		{2, 1, most{steps: 1, ones: 1, count: 6912}},
		{2, 2, most{steps: 2, ones: 2, count: 6912 + 2304}},
		// The busy beaver performs 6 steps and leaves 4 ones.
		{2, 5, most{steps: 5, ones: 3, count: 9744}},
		{2, 6, most{steps: 6, ones: 4, count: 9784}},
		{2, 7, most{steps: 6, ones: 4, count: 9784}},
		{2, api.MaxSteps, most{steps: 6, ones: 4, count: 9784}},
	}
	for _, c := range cases {
		if got := mostOf(c.states, c.steps); got != c.want {
			t.Errorf("%d states, %d steps: %v, want %v", c.states, c.steps, got, c.want)
		}
	}
}

// TestMostAgreesWithModel holds every number of steps against machines that are run one by one on a line of cells.
func TestMostAgreesWithModel(t *testing.T) {
	for states := 1; states <= 2; states++ {
		var outcomes []outcome
		for _, m := range machinesInOrder(states) {
			if o := run(m); o.halts {
				outcomes = append(outcomes, o)
			}
		}
		for steps := 0; steps <= api.MaxSteps; steps++ {
			var want most
			for _, o := range outcomes {
				if o.steps <= steps {
					want.steps, want.ones, want.count = max(want.steps, o.steps), max(want.ones, o.ones), want.count+1
				}
			}
			if got := mostOf(states, steps); got != want {
				t.Fatalf("%d states, %d steps: %v, want %v", states, steps, got, want)
			}
		}
	}
}

func TestMostErrors(t *testing.T) {
	cases := []struct {
		states, steps int
		want          api.Errno
	}{
		{0, 1, api.ErrLarge},
		{-1, 1, api.ErrLarge},
		{3, 1, api.ErrLarge},
		{api.MaxStates, 1, api.ErrLarge},
		{math.MinInt, 1, api.ErrLarge},
		{math.MaxInt, 1, api.ErrLarge},
		{0, -1, api.ErrLarge}, // the states come before the steps
		{3, api.MaxSteps + 1, api.ErrLarge},
		{1, -1, api.ErrLong},
		{1, api.MaxSteps + 1, api.ErrLong},
		{2, -1, api.ErrLong},
		{2, api.MaxSteps + 1, api.ErrLong},
		{2, math.MinInt, api.ErrLong},
		{2, math.MaxInt, api.ErrLong},
	}
	for _, c := range cases {
		if got := mostOf(c.states, c.steps); got != (most{err: c.want}) {
			t.Errorf("%d states, %d steps: %v, want error %d", c.states, c.steps, got, c.want)
		}
	}
}

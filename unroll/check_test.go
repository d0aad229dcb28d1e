package unroll_test

import (
	"math"
	"testing"

	"tapeworks/api"
	"tapeworks/tape"
	"tapeworks/unroll"
)

// expectError wants both functions to refuse their arguments, whatever the input is.
func expectError(t *testing.T, name string, m api.Machine, cells, steps int, want api.Errno) {
	t.Helper()
	if l, e := unroll.Build(m, cells, steps); e != want || len(l) != 0 {
		t.Errorf("%s: Build: %v, error %d; want error %d", name, l, e, want)
	}
	for _, n := range []int{0, 1, 2, min(max(cells, 0), 9), api.MaxCells + 1} {
		if yes, e := unroll.Ask(m, cells, steps, haveOf(n, 1<<n-1)); e != want || yes {
			t.Errorf("%s: Ask with %d values: %t, error %d; want error %d", name, n, yes, e, want)
		}
	}
}

// plain returns a machine of the given size that is valid for package tape, and that writes 1 and halts.
func plain(states, signs int) api.Machine {
	m := api.Machine{States: states, Signs: signs}
	for range states {
		var rules []api.Rule
		for range signs {
			rules = append(rules, api.Rule{Write: 1, Next: states})
		}
		m.Rules = append(m.Rules, rules)
	}
	return m
}

// with returns a machine with one rule changed.
func with(m api.Machine, state, sign int, rule api.Rule) api.Machine {
	m.Rules[state][sign] = rule
	return m
}

// refusal is a machine that package tape refuses, with the error.
type refusal struct {
	m    api.Machine
	want api.Errno
}

func refusals() map[string]refusal {
	missing, short, long := plain(2, 2), plain(2, 2), plain(2, 2)
	missing.Rules = missing.Rules[:1]
	short.Rules[1] = short.Rules[1][:1]
	long.Rules[0] = append(long.Rules[0], api.Rule{})
	return map[string]refusal{
		"nothing":               {api.Machine{}, api.ErrLarge},
		"no states":             {plain(0, 2), api.ErrLarge},
		"less than no states":   {api.Machine{States: math.MinInt, Signs: 2}, api.ErrLarge},
		"too many states":       {plain(api.MaxStates+1, 2), api.ErrLarge},
		"far too many states":   {api.Machine{States: math.MaxInt, Signs: 2}, api.ErrLarge},
		"one symbol":            {api.Machine{States: 1, Signs: 1, Rules: [][]api.Rule{{{Next: 1}}}}, api.ErrLarge},
		"too many symbols":      {plain(1, api.MaxSigns+1), api.ErrLarge},
		"no rules":              {api.Machine{States: 1, Signs: 2}, api.ErrForm},
		"no rules of a state":   {missing, api.ErrForm},
		"no rule of a symbol":   {short, api.ErrForm},
		"a rule too many":       {long, api.ErrForm},
		"an unknown symbol":     {with(plain(2, 2), 1, 1, api.Rule{Write: 2, Next: 2}), api.ErrArg},
		"a symbol below 0":      {with(plain(2, 2), 0, 0, api.Rule{Write: -1, Next: 2}), api.ErrArg},
		"a jump":                {with(plain(1, 2), 0, 1, api.Rule{Move: 2, Next: 1}), api.ErrRange},
		"a jump back":           {with(plain(1, 2), 0, 0, api.Rule{Move: math.MinInt, Next: 1}), api.ErrRange},
		"an unknown state":      {with(plain(2, 2), 0, 1, api.Rule{Next: 3}), api.ErrArg},
		"a state below 0":       {with(plain(2, 2), 1, 0, api.Rule{Next: -1}), api.ErrArg},
		"a jump, and too large": {with(plain(3, 3), 2, 2, api.Rule{Move: -2}), api.ErrRange},
		"a symbol, too large":   {with(plain(3, 3), 2, 2, api.Rule{Write: 3}), api.ErrArg},
	}
}

func TestMachineErrors(t *testing.T) {
	for name, c := range refusals() {
		if e := tape.Check(c.m); e != c.want {
			t.Fatalf("%s: package tape says %d", name, e)
		}
		expectError(t, name, c.m, 2, 2, c.want)
		expectError(t, name+", and wrong cells and steps", c.m, 0, -1, c.want)
		expectError(t, name+", and too many cells", c.m, api.MaxCells+1, 1, c.want)
	}
}

// TestSizeErrors: package tape allows more states and symbols than can be simulated.
func TestSizeErrors(t *testing.T) {
	for states := 1; states <= api.MaxStates; states++ {
		for signs := 2; signs <= api.MaxSigns; signs++ {
			m := plain(states, signs)
			if states <= 2 && signs == 2 {
				expectSame(t, m, 2, 2)
				continue
			}
			expectError(t, "size", m, 2, 2, api.ErrForm)
			expectError(t, "size before cells", m, 0, 2, api.ErrForm)
			expectError(t, "size before steps", m, 2, api.MaxTime+1, api.ErrForm)
			expectError(t, "size before cells and steps", m, api.MaxCells+1, -1, api.ErrForm)
		}
	}
}

func TestCellErrors(t *testing.T) {
	for _, m := range []api.Machine{plain(1, 2), plain(2, 2)} {
		for _, cells := range []int{math.MinInt, -1, 0, api.MaxCells + 1, 64, math.MaxInt} {
			expectError(t, "cells", m, cells, 1, api.ErrLarge)
			expectError(t, "cells before steps", m, cells, -1, api.ErrLarge)
			expectError(t, "cells before many steps", m, cells, math.MaxInt, api.ErrLarge)
		}
	}
}

func TestStepErrors(t *testing.T) {
	for _, m := range []api.Machine{plain(1, 2), plain(2, 2)} {
		for cells := 1; cells <= api.MaxCells; cells++ {
			for _, steps := range []int{math.MinInt, -1, api.MaxTime + 1, math.MaxInt} {
				expectError(t, "steps", m, cells, steps, api.ErrLong)
			}
			for steps := range api.MaxTime + 1 {
				expectSame(t, m, cells, steps)
			}
		}
	}
}

func TestInputErrors(t *testing.T) {
	m := plain(2, 2)
	for cells := 1; cells <= api.MaxCells; cells++ {
		for n := range api.MaxCells + 3 {
			// The machine accepts every input.
			yes, e := unroll.Ask(m, cells, 1, make([]bool, n, 2*api.MaxCells))
			if n == cells && (e != api.OK || !yes) {
				t.Errorf("%d cells: %t, error %d", cells, yes, e)
			}
			if n != cells && (e != api.ErrArg || yes) {
				t.Errorf("%d cells, %d values: %t, error %d", cells, n, yes, e)
			}
		}
		if yes, e := unroll.Ask(m, cells, 0, nil); e != api.ErrArg || yes {
			t.Errorf("%d cells, no input: %t, error %d", cells, yes, e)
		}
	}
}

package unroll_test

import (
	"slices"
	"testing"

	"tapeworks/api"
	"tapeworks/gate"
	"tapeworks/unroll"
)

// The machines of the cases by hand.
var (
	// keeper writes back what it reads, does not move, and halts.
	keeper = api.Machine{States: 1, Signs: 2, Rules: [][]api.Rule{{{Write: 0, Next: 1}, {Write: 1, Next: 1}}}}
	// flipper writes the other symbol, does not move, and halts.
	flipper = api.Machine{States: 1, Signs: 2, Rules: [][]api.Rule{{{Write: 1, Next: 1}, {Write: 0, Next: 1}}}}
	// writer writes 1 and halts.
	writer = api.Machine{States: 1, Signs: 2, Rules: [][]api.Rule{{{Write: 1, Next: 1}, {Write: 1, Next: 1}}}}
	// eraser writes 0 and halts.
	eraser = api.Machine{States: 1, Signs: 2, Rules: [][]api.Rule{{{Write: 0, Next: 1}, {Write: 0, Next: 1}}}}
	// stayer never halts.
	stayer = api.Machine{States: 1, Signs: 2, Rules: [][]api.Rule{{{Write: 0}, {Write: 1}}}}
	// looker writes 0, moves right and halts.
	looker = api.Machine{States: 1, Signs: 2, Rules: [][]api.Rule{{{Move: 1, Next: 1}, {Move: 1, Next: 1}}}}
	// lefty keeps what it reads, moves left and halts.
	lefty = api.Machine{States: 1, Signs: 2, Rules: [][]api.Rule{{{Write: 0, Move: -1, Next: 1}, {Write: 1, Move: -1, Next: 1}}}}
	// seeker moves right over zeros and halts on the first 1.
	seeker = api.Machine{States: 1, Signs: 2, Rules: [][]api.Rule{{{Write: 0, Move: 1}, {Write: 1, Next: 1}}}}
	// pusher writes 1 and moves right over zeros, and halts on the cell behind the first 1.
	pusher = api.Machine{States: 1, Signs: 2, Rules: [][]api.Rule{{{Write: 1, Move: 1}, {Write: 0, Move: 1, Next: 1}}}}
	// turner goes right over the first cell, and there either halts or, on a 0, goes back and looks again.
	turner = api.Machine{States: 2, Signs: 2, Rules: [][]api.Rule{
		{{Write: 0, Move: 1, Next: 1}, {Write: 1, Move: 1, Next: 1}},
		{{Write: 1, Move: -1, Next: 0}, {Write: 1, Move: -1, Next: 2}},
	}}
)

func TestByHand(t *testing.T) {
	cases := []struct {
		name         string
		m            api.Machine
		cells, steps int
		// inputs has the accepted ones, as text: cell 0 comes first.
		inputs []string
	}{
		{"the example of the chapter", keeper, 2, 1, []string{"10", "11"}},
		{"it halts earlier", keeper, 2, 6, []string{"10", "11"}},
		{"no steps", keeper, 2, 0, nil},
		{"no steps of a machine that writes", writer, 2, 0, nil},
		{"a single cell", keeper, 1, 1, []string{"1"}},
		{"the symbol that was written counts", flipper, 2, 1, []string{"00", "01"}},
		{"after halting nothing is written", flipper, 1, 2, []string{"0"}},
		{"every input", writer, 2, 1, []string{"00", "01", "10", "11"}},
		{"no input", eraser, 2, 1, nil},
		{"it never halts", stayer, 2, 6, nil},
		{"the head has moved", looker, 2, 1, []string{"01", "11"}},
		{"the head stays at the right end", looker, 1, 1, nil},
		{"the head stays at the left end", lefty, 2, 1, []string{"10", "11"}},
		{"one step is too few", seeker, 3, 1, []string{"100", "101", "110", "111"}},
		{"two steps", seeker, 3, 2, []string{"100", "101", "110", "111", "010", "011"}},
		{"three steps", seeker, 3, 3, []string{"100", "101", "110", "111", "010", "011", "001"}},
		{"the blank behind the end is never read", seeker, 3, 6, []string{"100", "101", "110", "111", "010", "011", "001"}},
		{"the end stops a walk to the right", pusher, 2, 3, []string{"11"}},
		// On 00, both cells become 1, and the head, which stays at cell 1, erases it: the sign is read again.
		{"a cell is read twice", pusher, 1, 2, nil},
		{"a 1 behind the first 1", pusher, 3, 3, []string{"110", "111", "011"}},
		{"two states", turner, 2, 2, []string{"11"}},
		{"two states, and back again", turner, 2, 4, []string{"10", "11"}},
		{"a single cell, two states", turner, 1, 2, []string{"1"}},
		// In state 1 the 0 becomes 1 and the head stays: it is read in state 0, and then again in state 1.
		{"both ends are the same cell", turner, 1, 4, []string{"0", "1"}},
	}
	for _, c := range cases {
		for set := range 1 << c.cells {
			text := ""
			for cell := range c.cells {
				text += string(rune('0' + set>>cell&1))
			}
			want := slices.Contains(c.inputs, text)
			if got, e := unroll.Ask(c.m, c.cells, c.steps, haveOf(c.cells, set)); e != api.OK || got != want {
				t.Errorf("%s: Ask on %s: %t, error %d; want %t", c.name, text, got, e, want)
			}
			if got := buildWord(t, c.m, c.cells, c.steps)>>set&1 == 1; got != want {
				t.Errorf("%s: Build on %s: %t, want %t", c.name, text, got, want)
			}
		}
	}
}

// TestOneState holds all machines of one state against the model.
func TestOneState(t *testing.T) {
	for number := range machinesOf(1) {
		m := machine(1, number)
		for cells := 1; cells <= api.MaxCells; cells++ {
			for steps := range api.MaxTime + 1 {
				expectSame(t, m, cells, steps)
			}
		}
	}
}

// TestTwoStates holds machines of two states against the model, on all tapes and for all numbers of steps.
func TestTwoStates(t *testing.T) {
	// The number is prime to that of the rules, so that all rules come with all others.
	for number := 0; number < machinesOf(2); number += 601 {
		m := machine(2, number)
		for cells := 1; cells <= api.MaxCells; cells++ {
			for steps := range api.MaxTime + 1 {
				expectSame(t, m, cells, steps)
			}
		}
	}
}

// TestEveryMachine holds the circuits of all machines of two states against the model, each on one tape.
func TestEveryMachine(t *testing.T) {
	for number := range machinesOf(2) {
		m := machine(2, number)
		// The number of cells is prime to that of the rules, as well.
		cells := 1 + number%api.MaxCells
		if got, want := buildWord(t, m, cells, api.MaxTime), modelWord(m, cells, api.MaxTime); got != want {
			t.Fatalf("%v, %d cells: %x, want %x", m, cells, got, want)
		}
	}
}

// TestShortCircuits puts the circuits that are not too long into package gate.
func TestShortCircuits(t *testing.T) {
	short := 0
	for number := 0; number < machinesOf(2); number += 997 {
		m := machine(2, number)
		for cells := 1; cells <= api.MaxCells; cells++ {
			l, e := unroll.Build(m, cells, 3)
			if e != api.OK {
				t.Fatalf("%v: error %d", m, e)
			}
			if len(l) > api.MaxGates {
				continue
			}
			short++
			for set := range 1 << cells {
				have := haveOf(cells, set)
				want, _ := unroll.Ask(m, cells, 3, have)
				if got, e := gate.Value(cells, l, have); e != api.OK || got != want {
					t.Fatalf("%v on %v: %t, error %d; want %t", m, have, got, e, want)
				}
			}
		}
	}
	if short < 100 {
		t.Errorf("only %d circuits are short", short)
	}
}

// TestLength: a circuit grows with the steps and the cells, not with the number of runs.
func TestLength(t *testing.T) {
	for number := 0; number < machinesOf(2); number += 37 {
		l, e := unroll.Build(machine(2, number), api.MaxCells, api.MaxTime)
		if e != api.OK || len(l) > 1000 {
			t.Fatalf("%v: %d gates, error %d", machine(2, number), len(l), e)
		}
	}
}

// TestIsRepeatable: a result does not depend on earlier calls, nor on what became of their results.
func TestIsRepeatable(t *testing.T) {
	for number := 0; number < machinesOf(2); number += 997 {
		m := machine(2, number)
		first, _ := unroll.Build(m, api.MaxCells, api.MaxTime)
		kept := slices.Clone(first)
		clear(first)
		if again, _ := unroll.Build(m, api.MaxCells, api.MaxTime); !slices.Equal(again, kept) {
			t.Fatalf("%v: %v, and then %v", m, kept, again)
		}
	}
}

// TestNothingIsChanged: the functions leave their arguments, and what lies behind these, as they are.
func TestNothingIsChanged(t *testing.T) {
	wrong := api.Rule{Write: 9, Move: 9, Next: 9}
	for number := 0; number < machinesOf(2); number += 997 {
		was := machine(2, number)
		for set := range 1 << api.MaxCells {
			rules := [][]api.Rule{append(slices.Clone(was.Rules[0]), wrong), append(slices.Clone(was.Rules[1]), wrong), {wrong}}
			m := api.Machine{States: 2, Signs: 2, Rules: [][]api.Rule{rules[0][:2], rules[1][:2], rules[2]}[:2]}
			input := append(haveOf(api.MaxCells, set), true, true)
			got, e := unroll.Ask(m, api.MaxCells, api.MaxTime, input[:api.MaxCells])
			if want := accepts(was, api.MaxCells, api.MaxTime, uint32(set)); e != api.OK || got != want {
				t.Fatalf("%v on %v: %t, error %d; want %t", m, input, got, e, want)
			}
			l, _ := unroll.Build(m, api.MaxCells, api.MaxTime)
			clear(l)
			isSame := slices.Equal(input, append(haveOf(api.MaxCells, set), true, true))
			for state, list := range rules[:2] {
				isSame = isSame && slices.Equal(list[:2], was.Rules[state]) && list[2] == wrong
			}
			if !isSame {
				t.Fatalf("%v: an argument has changed", was)
			}
		}
	}
}

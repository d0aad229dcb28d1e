package gate_test

import (
	"slices"
	"testing"

	"tapeworks/api"
	"tapeworks/gate"
)

// valueWord asks for the value of a circuit on all sets of its inputs, and returns the truth table as a word.
func valueWord(t *testing.T, in int, l []api.Gate) uint32 {
	t.Helper()
	table := make([]bool, 1<<in)
	for set := range table {
		value, e := gate.Value(in, l, haveOf(in, set))
		if e != api.OK {
			t.Fatalf("%v: error %d", l, e)
		}
		table[set] = value
	}
	return tableWord(table)
}

// expectSame wants Value and Deep to agree with the definitions.
func expectSame(t *testing.T, in int, l []api.Gate) {
	t.Helper()
	if got, want := valueWord(t, in, l), wordOf(t, in, l); got != want {
		t.Fatalf("%v: value %x, want %x", l, got, want)
	}
	if got, e := gate.Deep(in, l); e != api.OK || got != depthOf(l, len(l)-1) {
		t.Fatalf("%v: depth %d, error %d; want %d", l, got, e, depthOf(l, len(l)-1))
	}
}

func TestByHand(t *testing.T) {
	cases := []struct {
		name  string
		in    int
		l     []api.Gate
		table []bool
		depth int
	}{
		{"an input", 1, []api.Gate{input(0)}, []bool{false, true}, 0},
		{"the first of two inputs", 2, []api.Gate{input(0)}, []bool{false, true, false, true}, 0},
		{"the second of two inputs", 2, []api.Gate{input(1)}, []bool{false, false, true, true}, 0},
		{"a negation", 1, []api.Gate{input(0), not(0)}, []bool{true, false}, 1},
		{"two negations", 1, []api.Gate{input(0), not(0), not(1)}, []bool{false, true}, 2},
		{"a conjunction", 2, []api.Gate{input(0), input(1), and(0, 1)}, []bool{false, false, false, true}, 1},
		{"a disjunction", 2, []api.Gate{input(0), input(1), or(1, 0)}, []bool{false, true, true, true}, 1},
		{"a conjunction of a gate and itself", 1, []api.Gate{input(0), and(0, 0)}, []bool{false, true}, 1},
		{"a contradiction", 1, []api.Gate{input(0), not(0), and(0, 1)}, []bool{false, false}, 2},
		{"a tautology", 1, []api.Gate{input(0), not(0), or(1, 0)}, []bool{true, true}, 2},
		{"the last gate is not the deepest", 1, []api.Gate{input(0), not(0), not(1), not(2), not(0)}, []bool{true, false}, 1},
		{"the last gate is an input", 2, []api.Gate{input(0), not(0), input(1)}, []bool{false, false, true, true}, 0},
		{"A is deeper", 2, []api.Gate{input(0), input(1), not(0), not(2), or(3, 1)}, []bool{false, true, true, true}, 3},
		{"B is deeper", 2, []api.Gate{input(0), input(1), not(0), not(2), and(1, 3)}, []bool{false, false, false, true}, 3},
		{"only the first input", 2, []api.Gate{input(0), input(1), not(1), and(0, 2)}, []bool{false, true, false, false}, 2},
		{"only the second input", 2, []api.Gate{input(0), input(1), not(0), and(2, 1)}, []bool{false, false, true, false}, 2},
		{
			"one of two inputs", 2,
			[]api.Gate{input(0), input(1), or(0, 1), and(0, 1), not(3), and(2, 4)},
			[]bool{false, true, true, false}, 3,
		},
		{
			"two of three inputs", 3,
			[]api.Gate{input(2), input(1), input(0), and(0, 1), and(1, 2), and(0, 2), or(3, 4), or(6, 5)},
			[]bool{false, false, false, true, false, true, true, true}, 3,
		},
	}
	for _, c := range cases {
		if got := valueWord(t, c.in, c.l); got != tableWord(c.table) {
			t.Errorf("%s: value %x, want %x", c.name, got, tableWord(c.table))
		}
		if got, e := gate.Deep(c.in, c.l); e != api.OK || got != c.depth {
			t.Errorf("%s: depth %d, error %d; want %d", c.name, got, e, c.depth)
		}
		got, e := gate.Turn(c.in, c.l)
		if e != api.OK || wordOf(t, c.in, got) != tableWord(c.table) {
			t.Errorf("%s: Turn: %v, error %d; want %x", c.name, got, e, tableWord(c.table))
		}
	}
}

// TestSmallCircuits holds all circuits of a few gates against the definitions.
func TestSmallCircuits(t *testing.T) {
	for in := 1; in <= 2; in++ {
		for gates := 1; gates <= 4; gates++ {
			for l := range circuits(in, gates) {
				expectSame(t, in, l)
			}
		}
	}
}

func TestLargeCircuits(t *testing.T) {
	var d dice
	for round := range 2000 {
		expectSame(t, 1+d.below(api.MaxIn), d.circuit(1, 1+d.below(api.MaxGates), false))
		in := 1 + round%api.MaxIn
		expectSame(t, in, d.circuit(in, 1+d.below(14), true))
		expectSame(t, in, d.circuit(in, api.MaxGates, false))
	}
}

// doubled returns a circuit whose gates refer twice to the one before: it has far more paths than a program can follow.
func doubled(kinds ...int) []api.Gate {
	l := []api.Gate{input(0)}
	for len(l) < api.MaxGates {
		before := len(l) - 1
		l = append(l, api.Gate{Kind: kinds[before%len(kinds)], A: before, B: before})
	}
	return l
}

func TestManyPaths(t *testing.T) {
	for _, kinds := range [][]int{{api.GAnd}, {api.GOr}, {api.GNot}, {api.GAnd, api.GNot}, {api.GAnd, api.GNot, api.GOr}, {api.GNot, api.GNot, api.GOr, api.GNot, api.GAnd}} {
		l := doubled(kinds...)
		if got, want := valueWord(t, 1, l), wordOf(t, 1, l); got != want {
			t.Errorf("%v: value %x, want %x", kinds, got, want)
		}
		if got, e := gate.Deep(1, l); e != api.OK || got != api.MaxGates-1 {
			t.Errorf("%v: depth %d, error %d", kinds, got, e)
		}
		expectTurned(t, 1, l)
	}
}

func TestValueForm(t *testing.T) {
	for in := 1; in <= api.MaxIn; in++ {
		// The value is true for all inputs, and would be without them.
		l := []api.Gate{input(0), not(0), or(0, 1)}
		for n := range api.MaxIn + 3 {
			have := make([]bool, n, n+api.MaxIn)
			got, e := gate.Value(in, l, have)
			if n == in && (e != api.OK || !got) {
				t.Errorf("%d inputs: %t, error %d", in, got, e)
			}
			if n != in && (e != api.ErrForm || got) {
				t.Errorf("%d inputs, of which %d are given: %t, error %d", in, n, got, e)
			}
		}
		if got, e := gate.Value(in, l, nil); e != api.ErrForm || got {
			t.Errorf("%d inputs, none given: %t, error %d", in, got, e)
		}
	}
}

// TestNothingIsChanged: the functions leave their arguments, and what lies behind these, as they are.
func TestNothingIsChanged(t *testing.T) {
	var d dice
	for range 500 {
		in := 1 + d.below(api.MaxIn)
		n := 1 + d.below(api.MaxGates-2)
		l := d.circuit(in, n+2, false)
		have := haveOf(in+2, d.below(128))
		table := tableOf(api.MaxIn, d.word())
		wasGates, wasHave, wasTable := slices.Clone(l), slices.Clone(have), slices.Clone(table)
		gate.Check(in, l[:n])
		gate.Value(in, l[:n], have[:in])
		gate.Deep(in, l[:n])
		turned, _ := gate.Turn(in, l[:n])
		built, _ := gate.Build(in, table[:1<<in])
		for _, list := range [][]api.Gate{turned, built} {
			for i := range list {
				list[i].Kind = -1
			}
		}
		if !slices.Equal(l, wasGates) || !slices.Equal(have, wasHave) || !slices.Equal(table, wasTable) {
			t.Fatal("an argument has changed")
		}
	}
}

package gate_test

import (
	"math"
	"slices"
	"testing"

	"tapeworks/api"
	"tapeworks/gate"
)

// expectError wants all functions to refuse a circuit, whatever the inputs are.
func expectError(t *testing.T, name string, in int, l []api.Gate, want api.Errno) {
	t.Helper()
	if e := gate.Check(in, l); e != want {
		t.Errorf("%s: Check: error %d; want %d", name, e, want)
	}
	for _, n := range []int{0, 1, 2, min(max(in, 0), 9), api.MaxIn + 1} {
		for _, value := range []bool{false, true} {
			if got, e := gate.Value(in, l, slices.Repeat([]bool{value}, n)); e != want || got {
				t.Errorf("%s: Value: %t, error %d; want error %d", name, got, e, want)
			}
		}
	}
	if got, e := gate.Deep(in, l); e != want || got != 0 {
		t.Errorf("%s: Deep: %d, error %d; want error %d", name, got, e, want)
	}
	if got, e := gate.Turn(in, l); e != want || len(got) != 0 {
		t.Errorf("%s: Turn: %v, error %d; want error %d", name, got, e, want)
	}
}

// expectValid wants all functions to accept a circuit.
func expectValid(t *testing.T, name string, in int, l []api.Gate) {
	t.Helper()
	if e := gate.Check(in, l); e != api.OK {
		t.Errorf("%s: Check: error %d", name, e)
	}
	if _, e := gate.Value(in, l, make([]bool, in)); e != api.OK {
		t.Errorf("%s: Value: error %d", name, e)
	}
	if _, e := gate.Deep(in, l); e != api.OK {
		t.Errorf("%s: Deep: error %d", name, e)
	}
	if got, e := gate.Turn(in, l); e != api.OK || len(got) == 0 {
		t.Errorf("%s: Turn: %v, error %d", name, got, e)
	}
}

func TestCheckInputs(t *testing.T) {
	wrong := api.Gate{Kind: 9}
	for _, in := range []int{math.MinInt, -1, api.MaxIn + 1, 64, math.MaxInt} {
		expectError(t, "number of inputs", in, []api.Gate{input(0)}, api.ErrLarge)
		expectError(t, "number of inputs, before a wrong gate", in, []api.Gate{wrong}, api.ErrLarge)
		expectError(t, "number of inputs, without gates", in, nil, api.ErrLarge)
	}
	for in := 1; in <= api.MaxIn; in++ {
		for number := range in {
			expectValid(t, "input", in, []api.Gate{input(number)})
		}
		for _, number := range []int{math.MinInt, -1, in, in + 1, math.MaxInt} {
			expectError(t, "input", in, []api.Gate{input(number)}, api.ErrRange)
			expectError(t, "input that is not used", in, []api.Gate{input(number), input(0)}, api.ErrRange)
			expectError(t, "last input", in, []api.Gate{input(0), input(number)}, api.ErrRange)
		}
	}
	// No inputs are allowed, but there is no gate to begin with.
	expectError(t, "no inputs, an input", 0, []api.Gate{input(0)}, api.ErrRange)
	expectError(t, "no inputs, a negation", 0, []api.Gate{not(0)}, api.ErrArg)
	expectError(t, "no inputs, a conjunction", 0, []api.Gate{and(0, 0)}, api.ErrArg)
	expectError(t, "no inputs, a disjunction", 0, []api.Gate{or(0, 0)}, api.ErrArg)
	expectError(t, "no inputs, an unknown kind", 0, []api.Gate{wrong}, api.ErrKind)
}

func TestCheckLength(t *testing.T) {
	wrong := api.Gate{Kind: 9}
	for in := 0; in <= api.MaxIn; in++ {
		expectError(t, "no gates", in, nil, api.ErrLarge)
		expectError(t, "an empty list", in, []api.Gate{}, api.ErrLarge)
		expectError(t, "no gates within the length", in, []api.Gate{input(0)}[:0], api.ErrLarge)
		expectError(t, "a gate too many", in, slices.Repeat([]api.Gate{input(0)}, api.MaxGates+1), api.ErrLarge)
		expectError(t, "a gate too many, before wrong ones", in, slices.Repeat([]api.Gate{wrong}, api.MaxGates+1), api.ErrLarge)
		expectError(t, "wrong gates", in, slices.Repeat([]api.Gate{wrong}, api.MaxGates), api.ErrKind)
	}
	for n := 1; n <= api.MaxGates; n++ {
		expectValid(t, "length", 1, slices.Repeat([]api.Gate{input(0)}, n))
	}
	expectValid(t, "a wrong gate beyond the length", 1, []api.Gate{input(0), wrong}[:1])
	expectError(t, "a gate beyond the length", 1, []api.Gate{input(0), not(2), input(0)}[:2], api.ErrArg)
}

func TestCheckKind(t *testing.T) {
	for _, kind := range []int{math.MinInt, -1, 0, api.GOr + 1, 256 + api.GIn, math.MaxInt} {
		expectError(t, "unknown kind", 1, []api.Gate{{Kind: kind}}, api.ErrKind)
		expectError(t, "unknown kind before all else", 1, []api.Gate{{Kind: kind, A: -1, B: 99}}, api.ErrKind)
		expectError(t, "unknown kind of a gate that is not used", 1, []api.Gate{{Kind: kind}, input(0)}, api.ErrKind)
		expectError(t, "unknown kind of the last gate", 1, []api.Gate{input(0), {Kind: kind}}, api.ErrKind)
	}
}

func TestCheckReferences(t *testing.T) {
	two := []api.Gate{input(0), input(1)}
	// behind returns a circuit of five gates in which the given one is the third.
	behind := func(g api.Gate) []api.Gate {
		return append(slices.Clone(two), g, input(2), input(3))
	}
	for a := range 2 {
		expectValid(t, "negation", 4, behind(not(a)))
		for b := range 2 {
			expectValid(t, "conjunction", 4, behind(and(a, b)))
			expectValid(t, "disjunction", 4, behind(or(a, b)))
		}
	}
	for _, number := range []int{math.MinInt, -1, 2, 3, 4, 5, math.MaxInt} {
		expectError(t, "negation", 4, behind(not(number)), api.ErrArg)
		for _, kind := range []int{api.GAnd, api.GOr} {
			expectError(t, "A", 4, behind(api.Gate{Kind: kind, A: number, B: 1}), api.ErrArg)
			expectError(t, "B", 4, behind(api.Gate{Kind: kind, A: 1, B: number}), api.ErrArg)
			expectError(t, "A and B", 4, behind(api.Gate{Kind: kind, A: number, B: number}), api.ErrArg)
		}
	}
	for _, g := range []api.Gate{not(0), and(0, 0), or(0, 0)} {
		expectError(t, "nothing precedes", 1, []api.Gate{g}, api.ErrArg)
		expectError(t, "nothing precedes, and it is not used", 1, []api.Gate{g, input(0)}, api.ErrArg)
		expectError(t, "the gate itself", 1, []api.Gate{input(0), {Kind: g.Kind, A: 1, B: 1}}, api.ErrArg)
		expectValid(t, "many inputs are no gates", 5, []api.Gate{input(4), g})
	}
}

// TestUnusedFields: fields that a kind does not use change nothing.
func TestUnusedFields(t *testing.T) {
	for _, n := range []int{math.MinInt, -1, 1, 99, math.MaxInt} {
		expectValid(t, "input", 1, []api.Gate{{Kind: api.GIn, B: n}})
		expectValid(t, "negation", 1, []api.Gate{input(0), {Kind: api.GNot, B: n}})
		l := []api.Gate{{Kind: api.GIn, B: n}, {Kind: api.GIn, B: n + 1}, {Kind: api.GNot, A: 1, B: n}, and(0, 2)}
		if word := valueWord(t, 1, l); word != 0 {
			t.Errorf("B is %d: %x", n, word)
		}
		if depth, e := gate.Deep(1, l); e != api.OK || depth != 2 {
			t.Errorf("B is %d: depth %d, error %d", n, depth, e)
		}
		got, e := gate.Turn(1, l)
		if e != api.OK || wordOf(t, 1, got) != 0 {
			t.Errorf("B is %d: %v, error %d", n, got, e)
		}
	}
}

// TestCheckFirstInvalid: the first invalid gate counts, not the first error.
func TestCheckFirstInvalid(t *testing.T) {
	kind, number, part := api.Gate{Kind: 9}, input(7), and(0, 50)
	expectError(t, "kind first", 2, []api.Gate{kind, number, part}, api.ErrKind)
	expectError(t, "input first", 2, []api.Gate{number, kind, part}, api.ErrRange)
	expectError(t, "conjunction first", 2, []api.Gate{part, kind, number}, api.ErrArg)
	expectError(t, "conjunction before input", 2, []api.Gate{input(0), part, number, kind}, api.ErrArg)
	expectError(t, "input before conjunction", 2, []api.Gate{input(0), number, part, kind}, api.ErrRange)
	expectError(t, "kind before input", 2, []api.Gate{input(0), input(1), kind, number, part}, api.ErrKind)
	expectError(t, "negation before input", 2, []api.Gate{input(0), not(1), number, kind}, api.ErrArg)
	expectError(t, "disjunction before kind", 2, []api.Gate{input(0), or(1, 0), kind, number}, api.ErrArg)
}

package gate_test

import (
	"slices"
	"testing"

	"tapeworks/api"
	"tapeworks/gate"
)

// expectTurned wants an equivalent circuit of at most twice as many gates that negates nothing but inputs.
func expectTurned(t *testing.T, in int, l []api.Gate) []api.Gate {
	t.Helper()
	got, e := gate.Turn(in, l)
	if e != api.OK {
		t.Fatalf("%v: error %d", l, e)
	}
	if word, want := wordOf(t, in, got), wordOf(t, in, l); word != want {
		t.Fatalf("%v: %v has the values %x; want %x", l, got, word, want)
	}
	if len(got) > 2*len(l) {
		t.Fatalf("%v: %d gates", l, len(got))
	}
	for _, g := range got {
		if g.Kind == api.GNot && got[g.A].Kind != api.GIn {
			t.Fatalf("%v: %v negates a gate that is not an input", l, got)
		}
	}
	return got
}

// TestTurn: the document leaves the circuit open; for these ones there is little to choose.
func TestTurn(t *testing.T) {
	cases := []struct {
		name    string
		l, want []api.Gate
	}{
		{"an input", []api.Gate{input(1)}, []api.Gate{input(1)}},
		{"the negation of an input", []api.Gate{input(1), not(0)}, []api.Gate{input(1), not(0)}},
		{"two negations", []api.Gate{input(1), not(0), not(1)}, []api.Gate{input(1)}},
		{"a conjunction", []api.Gate{input(0), input(1), and(0, 1)}, []api.Gate{input(0), input(1), and(0, 1)}},
		{
			"the negation of a conjunction", []api.Gate{input(0), input(1), and(0, 1), not(2)},
			[]api.Gate{input(0), not(0), input(1), not(2), or(1, 3)},
		},
		{
			"the negation of a disjunction", []api.Gate{input(0), input(1), or(0, 1), not(2)},
			[]api.Gate{input(0), not(0), input(1), not(2), and(1, 3)},
		},
		{"gates that are not used", []api.Gate{input(0), not(0), and(0, 1), input(1)}, []api.Gate{input(1)}},
	}
	for _, c := range cases {
		if got := expectTurned(t, 2, c.l); !slices.Equal(got, c.want) {
			t.Errorf("%s: %v, want %v", c.name, got, c.want)
		}
	}
}

// TestTurnBothSides: a gate that is used along with its negation is needed twice.
func TestTurnBothSides(t *testing.T) {
	l := []api.Gate{input(0), input(1), or(0, 1), and(0, 1), not(3), and(2, 4), not(5), or(5, 6), and(5, 6), or(7, 8)}
	expectTurned(t, 2, l)
	for n := 1; n <= len(l); n++ {
		expectTurned(t, 2, l[:n])
		expectTurned(t, 2, append(slices.Clone(l[:n]), not(n-1)))
		expectTurned(t, 2, append(slices.Clone(l[:n]), not(n-1), and(n, n-1)))
	}
}

func TestTurnSmallCircuits(t *testing.T) {
	for in := 1; in <= 2; in++ {
		for gates := 1; gates <= 5; gates++ {
			for l := range circuits(in, gates) {
				expectTurned(t, in, l)
			}
		}
	}
}

func TestTurnLargeCircuits(t *testing.T) {
	var d dice
	for round := range 3000 {
		in := 1 + d.below(api.MaxIn)
		expectTurned(t, in, d.circuit(in, 1+d.below(api.MaxGates), round%2 == 0))
		expectTurned(t, in, d.circuit(in, api.MaxGates, round%2 == 0))
	}
}

// TestTurnIsRepeatable: a result does not depend on earlier calls, nor on what became of their results.
func TestTurnIsRepeatable(t *testing.T) {
	var d dice
	for range 200 {
		l := d.circuit(3, api.MaxGates, true)
		first := expectTurned(t, 3, l)
		kept := slices.Clone(first)
		clear(first)
		if again := expectTurned(t, 3, l); !slices.Equal(again, kept) {
			t.Fatalf("%v: %v, and then %v", l, kept, again)
		}
	}
}

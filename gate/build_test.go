package gate_test

import (
	"math"
	"math/bits"
	"slices"
	"testing"

	"tapeworks/api"
	"tapeworks/gate"
)

// expectBuilt wants a circuit for a truth table, of no more gates than are allowed.
func expectBuilt(t *testing.T, in int, table []bool) []api.Gate {
	t.Helper()
	got, e := gate.Build(in, table)
	if e != api.OK {
		t.Fatalf("%v: error %d", table, e)
	}
	if word, want := wordOf(t, in, got), tableWord(table); word != want {
		t.Fatalf("%v: %v has the values %x; want %x", table, got, word, want)
	}
	if len(got) > 3*len(table)+3*in+3 {
		t.Fatalf("%v: %d gates", table, len(got))
	}
	return got
}

// TestBuild: the document leaves the circuit open; for these tables there is little to choose.
func TestBuild(t *testing.T) {
	const no, yes = false, true
	cases := []struct {
		name  string
		in    int
		table []bool
		want  []api.Gate
	}{
		{"an input", 1, []bool{no, yes}, []api.Gate{input(0)}},
		{"its negation", 1, []bool{yes, no}, []api.Gate{input(0), not(0)}},
		{"never", 1, []bool{no, no}, []api.Gate{input(0), not(0), and(0, 1)}},
		{"always", 1, []bool{yes, yes}, []api.Gate{input(0), not(0), or(0, 1)}},
		{"the first of two inputs", 2, []bool{no, yes, no, yes}, []api.Gate{input(0)}},
		{"the second of two inputs", 2, []bool{no, no, yes, yes}, []api.Gate{input(1)}},
		{"the third of three inputs", 3, []bool{no, no, no, no, yes, yes, yes, yes}, []api.Gate{input(2)}},
		{"a conjunction", 2, []bool{no, no, no, yes}, []api.Gate{input(0), input(1), and(1, 0)}},
		{"a disjunction", 2, []bool{no, yes, yes, yes}, []api.Gate{input(0), input(1), or(1, 0)}},
		{"only the first input", 2, []bool{no, yes, no, no}, []api.Gate{input(0), input(1), not(1), and(2, 0)}},
		{"all but the first input", 2, []bool{yes, no, yes, yes}, []api.Gate{input(0), not(0), input(1), or(2, 1)}},
	}
	for _, c := range cases {
		if got := expectBuilt(t, c.in, c.table); !slices.Equal(got, c.want) {
			t.Errorf("%s: %v, want %v", c.name, got, c.want)
		}
	}
}

// TestEveryTable goes through all truth tables of up to four inputs.
func TestEveryTable(t *testing.T) {
	for in := 1; in <= 4; in++ {
		for word := range uint32(1) << (1 << in) {
			expectBuilt(t, in, tableOf(in, word))
		}
	}
}

func TestTablesOfFiveInputs(t *testing.T) {
	words := append([]uint32{0, math.MaxUint32}, columns[:]...)
	parity, most := uint32(0), uint32(0)
	for set := range uint32(32) {
		words = append(words, 1<<set, ^(1 << set), 1<<set-1)
		if bits.OnesCount32(set)%2 == 1 {
			parity |= 1 << set
		}
		if bits.OnesCount32(set) > 2 {
			most |= 1 << set
		}
	}
	words = append(words, parity, ^parity, most, ^most)
	var d dice
	for range 20000 {
		words = append(words, d.word())
	}
	for _, word := range words {
		expectBuilt(t, api.MaxIn, tableOf(api.MaxIn, word))
	}
}

// TestBuiltCircuitsAreCircuits puts the results that are not too long into the other functions.
func TestBuiltCircuitsAreCircuits(t *testing.T) {
	for in := 1; in <= 3; in++ {
		for word := range uint32(1) << (1 << in) {
			l := expectBuilt(t, in, tableOf(in, word))
			if e := gate.Check(in, l); e != api.OK {
				t.Fatalf("%v: error %d", l, e)
			}
			if got, want := valueWord(t, in, l), tableWord(tableOf(in, word)); got != want {
				t.Fatalf("%v: value %x, want %x", l, got, want)
			}
			expectTurned(t, in, l)
		}
	}
}

func TestBuildErrors(t *testing.T) {
	for _, in := range []int{math.MinInt, -64, -1, 0, api.MaxIn + 1, 63, 64, 65, math.MaxInt} {
		for _, n := range []int{0, 1, 2, 32, 64} {
			if got, e := gate.Build(in, make([]bool, n)); e != api.ErrLarge || len(got) != 0 {
				t.Errorf("%d inputs, %d values: %v, error %d", in, n, got, e)
			}
		}
	}
	for in := 1; in <= api.MaxIn; in++ {
		for n := range 70 {
			got, e := gate.Build(in, make([]bool, n, 70))
			if n == 1<<in && (e != api.OK || len(got) == 0) {
				t.Errorf("%d inputs, %d values: %v, error %d", in, n, got, e)
			}
			if n != 1<<in && (e != api.ErrForm || len(got) != 0) {
				t.Errorf("%d inputs, %d values: %v, error %d", in, n, got, e)
			}
		}
		if got, e := gate.Build(in, nil); e != api.ErrForm || len(got) != 0 {
			t.Errorf("%d inputs, no values: %v, error %d", in, got, e)
		}
	}
}

// TestBuildIsRepeatable: a result does not depend on earlier calls, nor on what became of their results.
func TestBuildIsRepeatable(t *testing.T) {
	var d dice
	for range 200 {
		table := tableOf(api.MaxIn, d.word())
		first := expectBuilt(t, api.MaxIn, table)
		kept := slices.Clone(first)
		clear(first)
		if again := expectBuilt(t, api.MaxIn, table); !slices.Equal(again, kept) {
			t.Fatalf("%v: %v, and then %v", table, kept, again)
		}
	}
}

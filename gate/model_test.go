package gate_test

import (
	"iter"
	"slices"
	"testing"

	"tapeworks/api"
)

func input(number int) api.Gate {
	return api.Gate{Kind: api.GIn, A: number}
}

func not(a int) api.Gate {
	return api.Gate{Kind: api.GNot, A: a}
}

func and(a, b int) api.Gate {
	return api.Gate{Kind: api.GAnd, A: a, B: b}
}

func or(a, b int) api.Gate {
	return api.Gate{Kind: api.GOr, A: a, B: b}
}

// columns has the values of each input as a truth table: bit s is set if the input is an element of s.
var columns = [api.MaxIn]uint32{0xaaaaaaaa, 0xcccccccc, 0xf0f0f0f0, 0xff00ff00, 0xffff0000}

// wordOf returns the truth table of a circuit as a word, with one bit for each of the 32 sets of five inputs. It reports the gates that are not allowed in a circuit.
func wordOf(t *testing.T, in int, l []api.Gate) uint32 {
	t.Helper()
	if len(l) == 0 {
		t.Fatal("a circuit without gates")
	}
	words := make([]uint32, len(l))
	for i, g := range l {
		if g.Kind == api.GIn {
			if g.A < 0 || g.A >= in {
				t.Fatalf("gate %d has no such input: %v", i, l)
			}
			words[i] = columns[g.A]
			continue
		}
		if g.A < 0 || g.A >= i || g.Kind != api.GNot && (g.B < 0 || g.B >= i) {
			t.Fatalf("gate %d refers to a gate that does not precede it: %v", i, l)
		}
		switch g.Kind {
		case api.GNot:
			words[i] = ^words[g.A]
		case api.GAnd:
			words[i] = words[g.A] & words[g.B]
		case api.GOr:
			words[i] = words[g.A] | words[g.B]
		default:
			t.Fatalf("gate %d has an unknown kind: %v", i, l)
		}
	}
	return words[len(l)-1]
}

// tableWord returns a truth table as a word; the inputs that it lacks do not matter.
func tableWord(table []bool) uint32 {
	word := uint32(0)
	for set := range 32 {
		if table[set%len(table)] {
			word |= 1 << set
		}
	}
	return word
}

// tableOf returns the first values of a word as a truth table.
func tableOf(in int, word uint32) []bool {
	table := make([]bool, 1<<in)
	for set := range table {
		table[set] = word>>set&1 == 1
	}
	return table
}

// haveOf returns the inputs of a set.
func haveOf(in, set int) []bool {
	have := make([]bool, in)
	for i := range have {
		have[i] = set>>i&1 == 1
	}
	return have
}

// depthOf follows the references of a gate down to the inputs.
func depthOf(l []api.Gate, number int) int {
	g := l[number]
	switch g.Kind {
	case api.GIn:
		return 0
	case api.GNot:
		return 1 + depthOf(l, g.A)
	}
	return 1 + max(depthOf(l, g.A), depthOf(l, g.B))
}

// circuits yields all circuits with so many gates. The yielded lists share memory.
func circuits(in, gates int) iter.Seq[[]api.Gate] {
	return func(yield func([]api.Gate) bool) {
		extend(in, gates, nil, yield)
	}
}

// extend yields all circuits with so many gates that begin with the given ones.
func extend(in, gates int, begin []api.Gate, yield func([]api.Gate) bool) bool {
	if len(begin) == gates {
		return yield(begin)
	}
	var next []api.Gate
	for i := range in {
		next = append(next, input(i))
	}
	for a := range begin {
		next = append(next, not(a))
		for b := range begin {
			next = append(next, and(a, b), or(a, b))
		}
	}
	for _, g := range next {
		if !extend(in, gates, append(slices.Clip(begin), g), yield) {
			return false
		}
	}
	return true
}

// dice is a sequence of numbers that is the same in every run.
type dice struct{ state uint64 }

// word returns the next 32 bits.
func (d *dice) word() uint32 {
	d.state = d.state*6364136223846793005 + 1442695040888963407
	return uint32(d.state >> 32)
}

// below returns a number less than n.
func (d *dice) below(n int) int {
	return int(d.word()>>8) % n
}

// circuit returns a circuit whose gates refer to any preceding gates, or, if near is set, to the last few, which makes it deep.
func (d *dice) circuit(in, gates int, near bool) []api.Gate {
	var l []api.Gate
	for len(l) < gates {
		before := len(l)
		if before == 0 || d.below(4) == 0 {
			l = append(l, input(d.below(in)))
			continue
		}
		pick := func() int {
			if near {
				return before - 1 - d.below(min(before, 3))
			}
			return d.below(before)
		}
		l = append(l, api.Gate{Kind: api.GNot + d.below(3), A: pick(), B: pick()})
	}
	return l
}

package unroll_test

import (
	"testing"

	"tapeworks/api"
	"tapeworks/unroll"
)

// rulesOf is the number of rules that a machine of so many states can have for a state and a symbol.
func rulesOf(states int) int {
	return 2 * 3 * (states + 1)
}

// machinesOf is the number of machines of so many states.
func machinesOf(states int) int {
	n := 1
	for range 2 * states {
		n *= rulesOf(states)
	}
	return n
}

// machine returns the machine with a number.
func machine(states, number int) api.Machine {
	m := api.Machine{States: states, Signs: 2}
	for range states {
		var rules []api.Rule
		for range 2 {
			n := number % rulesOf(states)
			number /= rulesOf(states)
			rules = append(rules, api.Rule{Write: n % 2, Move: n/2%3 - 1, Next: n / 6})
		}
		m.Rules = append(m.Rules, rules)
	}
	return m
}

// accepts runs a machine on a tape that is a word: bit i is cell i.
func accepts(m api.Machine, cells, steps int, word uint32) bool {
	head, state := uint32(1), 0
	for range steps {
		sign := 0
		if word&head != 0 {
			sign = 1
		}
		rule := m.Rules[state][sign]
		word &^= head
		if rule.Write == 1 {
			word |= head
		}
		if rule.Move == 1 && head != 1<<(cells-1) {
			head <<= 1
		}
		if rule.Move == -1 && head != 1 {
			head >>= 1
		}
		if state = rule.Next; state == m.States {
			return word&head != 0
		}
	}
	return false
}

// modelWord has, for every input, whether the model accepts it.
func modelWord(m api.Machine, cells, steps int) uint32 {
	word := uint32(0)
	for set := range uint32(1) << cells {
		if accepts(m, cells, steps, set) {
			word |= 1 << set
		}
	}
	return word
}

// haveOf returns the input of a set.
func haveOf(cells, set int) []bool {
	have := make([]bool, cells)
	for i := range have {
		have[i] = set>>i&1 == 1
	}
	return have
}

// askWord has, for every input, what Ask says.
func askWord(t *testing.T, m api.Machine, cells, steps int) uint32 {
	t.Helper()
	word := uint32(0)
	for set := range 1 << cells {
		yes, e := unroll.Ask(m, cells, steps, haveOf(cells, set))
		if e != api.OK {
			t.Fatalf("%v, %d cells, %d steps: error %d", m, cells, steps, e)
		}
		if yes {
			word |= 1 << set
		}
	}
	return word
}

// buildWord has, for every input, the value of the circuit that Build returns. It wants the circuit to be valid except for its length.
func buildWord(t *testing.T, m api.Machine, cells, steps int) uint32 {
	t.Helper()
	l, e := unroll.Build(m, cells, steps)
	if e != api.OK || len(l) == 0 {
		t.Fatalf("%v, %d cells, %d steps: %d gates, error %d", m, cells, steps, len(l), e)
	}
	return wordOf(t, cells, l)
}

// columns has, for each input, the sets of which it is an element.
var columns = [api.MaxCells]uint32{0xaaaaaaaa, 0xcccccccc, 0xf0f0f0f0, 0xff00ff00, 0xffff0000}

// wordOf evaluates a circuit on all sets of its inputs at once: bit s of the result is the value for the set s.
func wordOf(t *testing.T, in int, l []api.Gate) uint32 {
	t.Helper()
	words := make([]uint32, len(l))
	for i, g := range l {
		if g.Kind == api.GIn {
			if g.A < 0 || g.A >= in {
				t.Fatalf("gate %d has no such input: %v", i, l)
			}
			words[i] = columns[g.A]
			continue
		}
		if g.A < 0 || g.A >= i || g.Kind != api.GNot && (g.B < 0 || g.B >= i) {
			t.Fatalf("gate %d refers to a gate that does not precede it: %v", i, l)
		}
		switch g.Kind {
		case api.GNot:
			words[i] = ^words[g.A]
		case api.GAnd:
			words[i] = words[g.A] & words[g.B]
		case api.GOr:
			words[i] = words[g.A] | words[g.B]
		default:
			t.Fatalf("gate %d has an unknown kind: %v", i, l)
		}
	}
	return words[len(l)-1] & (1<<(1<<in) - 1)
}

// expectSame wants Ask and Build to agree with the model.
func expectSame(t *testing.T, m api.Machine, cells, steps int) {
	t.Helper()
	want := modelWord(m, cells, steps)
	if got := askWord(t, m, cells, steps); got != want {
		t.Fatalf("%v, %d cells, %d steps: Ask says %x, want %x", m, cells, steps, got, want)
	}
	if got := buildWord(t, m, cells, steps); got != want {
		t.Fatalf("%v, %d cells, %d steps: Build says %x, want %x", m, cells, steps, got, want)
	}
}

package cross_test

import (
	"slices"
	"testing"

	"tapeworks/api"
	"tapeworks/cross"
)

// numbers makes a fixed sequence of numbers that looks arbitrary.
type numbers uint64

// below returns the next number that is at least 0 and less than n.
func (s *numbers) below(n int) int {
	*s = *s*6364136223846793005 + 1442695040888963407
	return int(*s>>33) % n
}

// machine makes a machine that halts seldom enough to cross borders often.
func (s *numbers) machine() api.Machine {
	m := api.Machine{States: 1 + s.below(api.MaxStates), Signs: 2 + s.below(api.MaxSigns-1)}
	for range m.States {
		var rules []api.Rule
		for range m.Signs {
			next := s.below(m.States)
			if s.below(12) == 0 {
				next = m.States
			}
			rules = append(rules, api.Rule{Write: s.below(m.Signs), Move: s.below(3) - 1, Next: next})
		}
		m.Rules = append(m.Rules, rules)
	}
	return m
}

func (s *numbers) input(signs int) []int {
	var list []int
	for range s.below(api.MaxInput + 1) {
		list = append(list, s.below(signs))
	}
	return list
}

// origin is more than a head can reach in one call, on either side.
const origin = 2 * api.MaxSteps

// model steps through a machine on a long list of cells, of which the one numbered origin is cell 0, and keeps the crossing sequences of all borders under the same numbers.
func model(m api.Machine, input []int, steps int) [2 * origin][]int {
	var line [2 * origin]int
	var borders [2 * origin][]int
	copy(line[origin:], input)
	state, head := 0, origin
	for i := 0; i < steps && state != m.States; i++ {
		rule := m.Rules[state][line[head]]
		line[head] = rule.Write
		state = rule.Next
		switch rule.Move {
		case 1:
			head++
			borders[head] = append(borders[head], state)
		case -1:
			borders[head] = append(borders[head], state)
			head--
		}
	}
	return borders
}

func TestAgreesWithModel(t *testing.T) {
	s := numbers(1)
	for range 1000 {
		m := s.machine()
		input := s.input(m.Signs)
		steps := s.below(api.MaxSteps + 1)
		want := model(m, input, steps)
		all, e := cross.All(m, input, steps)
		if e != api.OK || !slices.EqualFunc(all, want[origin:origin+len(input)+1], slices.Equal) {
			t.Fatalf("%v on %v, %d steps: %v, error %d; want %v", m, input, steps, all, e, want[origin:origin+len(input)+1])
		}
		near := s.below(9) - 4
		for _, border := range []int{near, near + 1, s.below(2*api.MaxSteps+1) - api.MaxSteps, -api.MaxSteps, api.MaxSteps} {
			one, e := cross.Over(m, input, steps, border)
			if e != api.OK || !slices.Equal(one, want[origin+border]) {
				t.Fatalf("%v on %v, %d steps, border %d: %v, error %d; want %v", m, input, steps, border, one, e, want[origin+border])
			}
		}
	}
}

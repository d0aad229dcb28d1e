package tape_test

import (
	"testing"

	"tapeworks/api"
	"tapeworks/tape"
)

// numbers makes a fixed sequence of numbers that looks arbitrary.
type numbers uint64

// below returns the next number that is at least 0 and less than n.
func (s *numbers) below(n int) int {
	*s = *s*6364136223846793005 + 1442695040888963407
	return int(*s>>33) % n
}

func (s *numbers) machine() api.Machine {
	m := api.Machine{States: 1 + s.below(api.MaxStates), Signs: 2 + s.below(api.MaxSigns-1)}
	for range m.States {
		var rules []api.Rule
		for range m.Signs {
			rules = append(rules, api.Rule{Write: s.below(m.Signs), Move: s.below(3) - 1, Next: s.below(m.States + 1)})
		}
		m.Rules = append(m.Rules, rules)
	}
	return m
}

func (s *numbers) signs(length, signs int) []int {
	var list []int
	for range length {
		list = append(list, s.below(signs))
	}
	return list
}

// origin is more than a head or a range can reach in one call, on either side.
const origin = 4 * api.MaxSteps

// model steps through a machine on a long list of cells, of which the one numbered origin is cell 0.
func model(m api.Machine, now api.Now, steps int) (api.Now, int) {
	var line [2 * origin]int
	copy(line[origin+now.First:], now.Tape)
	done := 0
	for ; done < steps && now.State != m.States; done++ {
		rule := m.Rules[now.State][line[origin+now.Head]]
		line[origin+now.Head] = rule.Write
		now.Head, now.State = now.Head+rule.Move, rule.Next
	}
	low, high := 0, len(line)
	for line[low] == 0 && low < origin+now.Head {
		low++
	}
	for line[high-1] == 0 && high-1 > origin+now.Head {
		high--
	}
	return api.Now{State: now.State, Head: now.Head, First: low - origin, Tape: line[low:high]}, done
}

func TestGoAgreesWithModel(t *testing.T) {
	s := numbers(1)
	for range 5000 {
		m := s.machine()
		now := api.Now{
			State: s.below(m.States + 1),
			Head:  s.below(2*api.MaxSteps+1) - api.MaxSteps,
			First: s.below(2*api.MaxSteps+1) - api.MaxSteps,
			Tape:  s.signs(s.below(api.MaxSteps+1), m.Signs),
		}
		steps := s.below(api.MaxSteps + 1)
		want, count := model(m, now, steps)
		got, done, e := tape.Go(m, now, steps)
		if e != api.OK || done != count || !same(got, want) {
			t.Fatalf("%v from %v: %v, %d steps, error %d; want %v, %d steps", m, now, got, done, e, want, count)
		}
	}
}

func TestRunAgreesWithModel(t *testing.T) {
	s := numbers(2)
	for range 5000 {
		m := s.machine()
		input := s.signs(s.below(api.MaxInput+1), m.Signs)
		steps := s.below(api.MaxSteps + 1)
		want, count := model(m, api.Now{Tape: input}, steps)
		got, done, e := tape.Run(m, input, steps)
		if e != api.OK || done != count || !same(got, want) {
			t.Fatalf("%v on %v: %v, %d steps, error %d; want %v, %d steps", m, input, got, done, e, want, count)
		}
	}
}

// TestRunInParts: a run that is interrupted and resumed ends as one that is not.
func TestRunInParts(t *testing.T) {
	s := numbers(3)
	for range 500 {
		m := s.machine()
		input := s.signs(s.below(api.MaxInput+1), m.Signs)
		now, _, _ := tape.Run(m, input, 0)
		total := 0
		for steps := 1; steps <= 20; steps++ {
			var done int
			var e api.Errno
			now, done, e = tape.Go(m, now, 1)
			total += done
			want, count, _ := tape.Run(m, input, steps)
			if e != api.OK || total != count || !same(now, want) {
				t.Fatalf("%v on %v after %d steps: %v, want %v", m, input, steps, now, want)
			}
		}
	}
}

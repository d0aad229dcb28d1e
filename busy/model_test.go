package busy_test

import "tapeworks/api"

// rulesInOrder lists the rules of machines with so many states by their digits: a digit counts next states fastest, then moves, then symbols.
func rulesInOrder(states int) []api.Rule {
	var rules []api.Rule
	for _, write := range []int{0, 1} {
		for _, move := range []int{-1, 1} {
			for next := 0; next <= states; next++ {
				rules = append(rules, api.Rule{Write: write, Move: move, Next: next})
			}
		}
	}
	return rules
}

// machinesInOrder lists the machines with one or two states by their numbers, which count the last rule fastest.
func machinesInOrder(states int) []api.Machine {
	rules := rulesInOrder(states)
	var rows [][]api.Rule
	for _, first := range rules {
		for _, second := range rules {
			rows = append(rows, []api.Rule{first, second})
		}
	}
	var machines []api.Machine
	for _, row := range rows {
		if states == 1 {
			machines = append(machines, machine(row))
			continue
		}
		for _, other := range rows {
			machines = append(machines, machine(row, other))
		}
	}
	return machines
}

// machine makes a machine of two symbols, with one list of rules per state.
func machine(rules ...[]api.Rule) api.Machine {
	return api.Machine{States: len(rules), Signs: 2, Rules: rules}
}

// outcome is what becomes of a machine on a blank tape: the step in which it halts, and the ones that it leaves.
type outcome struct {
	halts       bool
	steps, ones int
}

// run steps through a machine on a line of cells that it cannot leave within MaxSteps steps.
func run(m api.Machine) outcome {
	var line [2*api.MaxSteps + 1]int
	state, head := 0, api.MaxSteps
	for step := 1; step <= api.MaxSteps; step++ {
		rule := m.Rules[state][line[head]]
		line[head] = rule.Write
		head += rule.Move
		state = rule.Next
		if state == m.States {
			sum := 0
			for _, sign := range line {
				sum += sign
			}
			return outcome{halts: true, steps: step, ones: sum}
		}
	}
	return outcome{}
}

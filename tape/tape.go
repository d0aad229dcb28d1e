// Package tape runs Turing machines on a tape that is unbounded on both sides: see doc/01-tape.md.
package tape

import "tapeworks/api"

// blank is the symbol of every cell that nothing was written to.
const blank = 0

// Check validates a machine.
func Check(m api.Machine) api.Errno {
	isStates, isSigns := between(1, api.MaxStates), between(2, api.MaxSigns)
	if !isStates(m.States) || !isSigns(m.Signs) {
		return api.ErrLarge
	}
	if !isComplete(m) {
		return api.ErrForm
	}
	return checkRules(m)
}

// Run executes a machine on an input, for the given number of steps or until it halts, and counts the steps.
func Run(m api.Machine, input []int, steps int) (api.Now, int, api.Errno) {
	if e := Check(m); e != api.OK {
		return api.Now{}, 0, e
	}
	if len(input) > api.MaxInput {
		return api.Now{}, 0, api.ErrLarge
	}
	// An input within MaxInput passes Go's checks of size and range, so the errors that are left come in Run's order.
	return Go(m, api.Now{Tape: input}, steps)
}

// Go executes a machine from a configuration, for the given number of steps or until it halts, and counts the steps.
func Go(m api.Machine, now api.Now, steps int) (api.Now, int, api.Errno) {
	if e := Check(m); e != api.OK {
		return api.Now{}, 0, e
	}
	if e := checkNow(m, now); e != api.OK {
		return api.Now{}, 0, e
	}
	if isSteps := between(0, api.MaxSteps); !isSteps(steps) {
		return api.Now{}, 0, api.ErrLong
	}
	end, done := execute(m, now, steps)
	return end, done, api.OK
}

// between returns a check that a number is at least low and at most high.
func between(low, high int) func(int) bool {
	return func(n int) bool { return low <= n && n <= high }
}

// isComplete tells whether every state has exactly one rule per symbol.
func isComplete(m api.Machine) bool {
	if len(m.Rules) != m.States {
		return false
	}
	for _, rules := range m.Rules {
		if len(rules) != m.Signs {
			return false
		}
	}
	return true
}

// checkRules returns the error of the first invalid rule.
func checkRules(m api.Machine) api.Errno {
	isSign, isMove, isNext := between(0, m.Signs-1), between(-1, 1), between(0, m.States)
	for _, rules := range m.Rules {
		for _, rule := range rules {
			if !isSign(rule.Write) {
				return api.ErrArg
			}
			if !isMove(rule.Move) {
				return api.ErrRange
			}
			if !isNext(rule.Next) {
				return api.ErrArg
			}
		}
	}
	return api.OK
}

// checkNow validates a configuration of a valid machine.
func checkNow(m api.Machine, now api.Now) api.Errno {
	if len(now.Tape) > api.MaxSteps {
		return api.ErrLarge
	}
	isState, isPlace := between(0, m.States), between(-api.MaxSteps, api.MaxSteps)
	if !isState(now.State) || !isPlace(now.Head) || !isPlace(now.First) {
		return api.ErrRange
	}
	isSign := between(0, m.Signs-1)
	for _, sign := range now.Tape {
		if !isSign(sign) {
			return api.ErrArg
		}
	}
	return api.OK
}

// execute performs the steps of a valid machine from a valid configuration.
func execute(m api.Machine, now api.Now, steps int) (api.Now, int) {
	cells := readCells(now)
	state, head, done := now.State, now.Head, 0
	for done < steps && state < m.States {
		rule := m.Rules[state][cells[head]]
		cells[head] = rule.Write
		head += rule.Move
		state = rule.Next
		done++
	}
	first, signs := writeCells(cells, head)
	return api.Now{State: state, Head: head, First: first, Tape: signs}, done
}

// readCells maps the cells of a configuration to their symbols. A cell that the map lacks reads as blank.
func readCells(now api.Now) map[int]int {
	cells := make(map[int]int)
	for i, sign := range now.Tape {
		cells[now.First+i] = sign
	}
	return cells
}

// writeCells lists the symbols of the smallest range that contains the head and all cells that are not blank, and tells where it starts.
func writeCells(cells map[int]int, head int) (int, []int) {
	first, last := head, head
	for at, sign := range cells {
		if sign != blank {
			first, last = min(first, at), max(last, at)
		}
	}
	signs := make([]int, last-first+1)
	for i := range signs {
		signs[i] = cells[first+i]
	}
	return first, signs
}

package unroll

import (
	"tapeworks/api"
	"tapeworks/circuit"
)

// unroller goes through the steps of a machine on all inputs at once: instead of signs, a place and a state, it has gates that depend on the input.
type unroller struct {
	circuit.Builder
	machine api.Machine
	// ones has, for each cell, whether it contains 1.
	ones []int
	// heads has, for each cell and each state, whether the head is at this cell and the machine in this state. Of the state in which it has halted, it has only the machines that halted in the last step.
	heads [][]int
	// accepted is whether the machine has halted on a 1.
	accepted int
}

// newUnroller returns an unroller for a machine that has not performed any steps.
func newUnroller(m api.Machine, cells int) *unroller {
	u := &unroller{machine: m, ones: make([]int, cells), accepted: circuit.Never}
	for cell := range u.ones {
		u.ones[cell] = u.Input(cell)
	}
	u.heads = u.nowhere()
	u.heads[0][0] = circuit.Always
	return u
}

// nowhere returns heads that are at no cell in no state.
func (u *unroller) nowhere() [][]int {
	heads := make([][]int, len(u.ones))
	for cell := range heads {
		for range u.machine.States + 1 {
			heads[cell] = append(heads[cell], circuit.Never)
		}
	}
	return heads
}

// step adds the gates for one step.
func (u *unroller) step() {
	before := u.heads
	u.heads = u.nowhere()
	for cell, states := range before {
		u.leave(cell, states)
	}
	for cell, states := range u.heads {
		halted := states[u.machine.States]
		u.accepted = u.Or(u.accepted, u.And(halted, u.ones[cell]))
	}
}

// leave adds the gates for a step from a cell. A head that is elsewhere neither reads nor writes this cell, so one cell can follow after the other.
func (u *unroller) leave(cell int, states []int) {
	one := u.ones[cell]
	reads := [maxSigns]int{u.Not(one), one}
	written, erased := circuit.Never, circuit.Never
	for state, rules := range u.machine.Rules {
		for sign, rule := range rules {
			applies := u.And(states[state], reads[sign])
			next := &u.heads[within(cell+rule.Move, len(u.ones))][rule.Next]
			*next = u.Or(*next, applies)
			switch {
			case rule.Write > sign:
				written = u.Or(written, applies)
			case rule.Write < sign:
				erased = u.Or(erased, applies)
			}
		}
	}
	u.ones[cell] = u.Or(u.And(one, u.Not(erased)), written)
}

// Package circuit builds circuits of package gate (doc/11-gate.md) gate by gate.
package circuit

import "tapeworks/api"

// Among the numbers of gates, these stand for the constants, for which no gates are needed unless the whole circuit is constant.
const (
	Never  = -1
	Always = -2
)

// Builder collects the gates of a circuit. Gates that it knows are not added again, so that equal parts of a circuit are shared. The zero Builder is ready for use. Its methods take the numbers that they have returned, and the constants.
type Builder struct {
	gates []api.Gate
	known map[api.Gate]int
}

// Input returns the number of a gate for an input.
func (b *Builder) Input(number int) int {
	return b.add(api.Gate{Kind: api.GIn, A: number})
}

// Not returns the number of a gate for a negation.
func (b *Builder) Not(a int) int {
	switch a {
	case Never:
		return Always
	case Always:
		return Never
	}
	return b.add(api.Gate{Kind: api.GNot, A: a})
}

// And returns the number of a gate for a conjunction.
func (b *Builder) And(one, other int) int {
	switch {
	case one == Never || other == Never:
		return Never
	case one == Always:
		return other
	case other == Always:
		return one
	}
	return b.add(api.Gate{Kind: api.GAnd, A: one, B: other})
}

// Or returns the number of a gate for a disjunction.
func (b *Builder) Or(one, other int) int {
	switch {
	case one == Always || other == Always:
		return Always
	case one == Never:
		return other
	case other == Never:
		return one
	}
	return b.add(api.Gate{Kind: api.GOr, A: one, B: other})
}

// Circuit returns a circuit with the value of a gate. It has the gates that this one needs, and no others.
func (b *Builder) Circuit(number int) []api.Gate {
	last := b.settle(number)
	needed := b.needed(last)
	places := make([]int, last+1)
	var l []api.Gate
	for i, g := range b.gates[:last+1] {
		if !needed[i] {
			continue
		}
		places[i] = len(l)
		switch g.Kind {
		case api.GNot:
			g.A = places[g.A]
		case api.GAnd, api.GOr:
			g.A, g.B = places[g.A], places[g.B]
		}
		l = append(l, g)
	}
	return l
}

// add returns the number of a gate, which may be a known one.
func (b *Builder) add(g api.Gate) int {
	if b.known == nil {
		b.known = map[api.Gate]int{}
	}
	number, found := b.known[g]
	if !found {
		number = len(b.gates)
		b.known[g] = number
		b.gates = append(b.gates, g)
	}
	return number
}

// settle returns a gate with the value of a gate or a constant. A constant is made of the first input.
func (b *Builder) settle(number int) int {
	if number != Never && number != Always {
		return number
	}
	first := b.Input(0)
	if number == Always {
		return b.Or(first, b.Not(first))
	}
	return b.And(first, b.Not(first))
}

// needed tells, for each gate up to the last one, whether the last one depends on it.
func (b *Builder) needed(last int) []bool {
	needed := make([]bool, last+1)
	needed[last] = true
	for i := last; i >= 0; i-- {
		if !needed[i] {
			continue
		}
		switch g := b.gates[i]; g.Kind {
		case api.GNot:
			needed[g.A] = true
		case api.GAnd, api.GOr:
			needed[g.A], needed[g.B] = true, true
		}
	}
	return needed
}

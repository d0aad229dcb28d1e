package gate

import (
	"tapeworks/api"
	"tapeworks/circuit"
)

// side is a gate or its negation.
type side struct {
	gate    int
	negated bool
}

// turner moves the negations of a circuit down to its inputs. Each side of a gate is placed once at most: circuits that share gates have far more paths than gates.
type turner struct {
	to     circuit.Builder
	from   []api.Gate
	placed map[side]int
}

// place returns the number of a gate of the new circuit for a side of one of the old circuit.
func (t *turner) place(s side) int {
	number, found := t.placed[s]
	if !found {
		number = t.add(t.from[s.gate], s.negated)
		t.placed[s] = number
	}
	return number
}

func (t *turner) add(g api.Gate, negated bool) int {
	switch g.Kind {
	case api.GNot:
		return t.place(side{g.A, !negated})
	case api.GIn:
		input := t.to.Input(g.A)
		if negated {
			return t.to.Not(input)
		}
		return input
	}
	a, b := t.place(side{g.A, negated}), t.place(side{g.B, negated})
	// The negation of a conjunction is the disjunction of the negations, and the other way round.
	if (g.Kind == api.GAnd) != negated {
		return t.to.And(a, b)
	}
	return t.to.Or(a, b)
}

package hard

import "tapeworks/api"

// mostLiterals is how many literals a clause may have.
const mostLiterals = 3

// literal is a variable, or its negation, at its place in a clause.
type literal struct {
	clause, variable int
	yes              bool
}

// literals returns the literals of all clauses in order, of each clause first those of Yes.
func literals(l []api.Clause) []literal {
	var list []literal
	for i, c := range l {
		for _, v := range c.Yes {
			list = append(list, literal{i, v, true})
		}
		for _, v := range c.No {
			list = append(list, literal{i, v, false})
		}
	}
	return list
}

func areOpposite(one, other literal) bool {
	return one.variable == other.variable && one.yes != other.yes
}

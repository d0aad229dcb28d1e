package name

import "tapeworks/api"

// convert returns a number of variables and clauses that hold for the values of the gates of a valid circuit, and for no other ones, if the circuit is true. An input needs no variable besides its own; any other gate has one, to which the clauses leave a single value whether the circuit depends on it or not.
func convert(in int, l []api.Gate) (int, []api.Clause) {
	var clauses []api.Clause
	add := func(yes, no []int) {
		clauses = append(clauses, api.Clause{Yes: yes, No: no})
	}
	vars := in
	variable := make([]int, len(l))
	for i, g := range l {
		if g.Kind == api.GIn {
			variable[i] = g.A
			continue
		}
		own, a := vars, variable[g.A]
		variable[i] = own
		vars++
		switch g.Kind {
		case api.GNot:
			add([]int{own, a}, nil)
			add(nil, []int{own, a})
		case api.GAnd:
			b := variable[g.B]
			add([]int{a}, []int{own})
			add([]int{b}, []int{own})
			add([]int{own}, []int{a, b})
		case api.GOr:
			b := variable[g.B]
			add([]int{own}, []int{a})
			add([]int{own}, []int{b})
			add([]int{a, b}, []int{own})
		}
	}
	add([]int{variable[len(l)-1]}, nil)
	return vars, clauses
}

package hard

import "tapeworks/api"

// Weights reduces satisfiability of clauses to subset sum. It returns weights, and a total that some of them add up to if and only if some assignment satisfies the clauses.
//
// The weights are decimal numbers with a digit for each variable and one for each clause. A variable has one weight for true and one for false, of which the total contains exactly one. The weight of a value also counts the literals that it makes true, in the digits of their clauses. Two more weights fill up the digit of a clause from any number but 0.
func Weights(vars int, l []api.Clause) ([]int, int, api.Errno) {
	if e := checkClauses(vars, l); e != api.OK {
		return nil, 0, e
	}
	if vars+len(l) > api.MaxDigits {
		return nil, 0, api.ErrLarge
	}
	digits := powers(vars + len(l))
	ofVariables, ofClauses := digits[:vars], digits[vars:]
	weights := make([]int, 2*len(digits))
	total := 0
	for v, digit := range ofVariables {
		weights[2*v] = digit
		weights[2*v+1] = digit
		total += digit
	}
	for _, one := range literals(l) {
		weights[indexOf(one)] += ofClauses[one.clause]
	}
	for i, digit := range ofClauses {
		weights[2*(vars+i)] = digit
		weights[2*(vars+i)+1] = 2 * digit
		// With both fillers, a digit lacks one literal at least; and all that can come together in a digit, three literals and the fillers, is less than 10.
		total += (mostLiterals + 1) * digit
	}
	return weights, total, api.OK
}

// indexOf returns the index of the weight of the value that makes a literal true.
func indexOf(one literal) int {
	if one.yes {
		return 2*one.variable + 1
	}
	return 2 * one.variable
}

// powers returns the first powers of ten.
func powers(number int) []int {
	list := make([]int, number)
	power := 1
	for i := range list {
		list[i] = power
		power *= 10
	}
	return list
}

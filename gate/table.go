package gate

import "tapeworks/circuit"

// addTable adds gates for a truth table and returns the one with its value, or a constant.
func addTable(b *circuit.Builder, in int, table []bool) int {
	parts := make([]int, len(table))
	for i, value := range table {
		parts[i] = circuit.Never
		if value {
			parts[i] = circuit.Always
		}
	}
	// Neighbours differ in the first input that is not yet chosen by.
	for input := range in {
		half := len(parts) / 2
		for i := range half {
			parts[i] = choose(b, input, parts[2*i], parts[2*i+1])
		}
		parts = parts[:half]
	}
	return parts[0]
}

// choose returns a gate, or a constant, with the value of no where an input is false, and of yes where it is true. It adds three gates at most, beside the input and its negation.
func choose(b *circuit.Builder, input, no, yes int) int {
	if no == yes {
		return no
	}
	positive := b.Input(input)
	negative := b.Not(positive)
	// Beside a constant that is always true, one gate is enough.
	switch {
	case no == circuit.Always:
		return b.Or(negative, yes)
	case yes == circuit.Always:
		return b.Or(positive, no)
	}
	return b.Or(b.And(positive, yes), b.And(negative, no))
}

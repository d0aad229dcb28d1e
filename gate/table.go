package gate

// Among the numbers of gates, these stand for the constants, for which no gates are needed unless the whole circuit is constant.
const (
	never  = -1
	always = -2
)

// addTable adds gates for a truth table. The gate added last has its value: equal parts of the table are the same gate, so nothing is added beside those it needs.
func (b *builder) addTable(in int, table []bool) {
	parts := make([]int, len(table))
	for i, value := range table {
		parts[i] = never
		if value {
			parts[i] = always
		}
	}
	// Neighbours differ in the first input that is not yet chosen by.
	for input := range in {
		half := len(parts) / 2
		for i := range half {
			parts[i] = b.choose(input, parts[2*i], parts[2*i+1])
		}
		parts = parts[:half]
	}
	if parts[0] < 0 {
		b.addConstant(parts[0])
	}
}

// choose returns a gate, or a constant, with the value of no where an input is false, and of yes where it is true. It adds three gates at most, beside the input and its negation.
func (b *builder) choose(input, no, yes int) int {
	positive := func() int { return b.input(input) }
	negative := func() int { return b.not(b.input(input)) }
	switch {
	case no == yes:
		return no
	case no == never && yes == always:
		return positive()
	case no == always && yes == never:
		return negative()
	case no == never:
		return b.and(positive(), yes)
	case no == always:
		return b.or(negative(), yes)
	case yes == never:
		return b.and(negative(), no)
	case yes == always:
		return b.or(positive(), no)
	}
	return b.or(b.and(positive(), yes), b.and(negative(), no))
}

// addConstant adds gates for a constant, made of the first input.
func (b *builder) addConstant(constant int) {
	first := b.input(0)
	if constant == always {
		b.or(first, b.not(first))
	} else {
		b.and(first, b.not(first))
	}
}

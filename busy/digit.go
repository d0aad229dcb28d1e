package busy

import "tapeworks/api"

// digits returns how many digits, and so how many rules, there are for machines with so many states.
func digits(states int) int {
	return 4 * (states + 1)
}

// machines returns how many machines with so many states there are. Every number below this is one of a machine, since every digit is one of a rule.
func machines(states int) int {
	count := 1
	for range states * signs {
		count *= digits(states)
	}
	return count
}

// digitOf returns the digit of a rule that moves the head.
func digitOf(states int, rule api.Rule) int {
	right := 0
	if rule.Move > 0 {
		right = 1
	}
	return (2*rule.Write+right)*(states+1) + rule.Next
}

// ruleOf returns the rule that has a digit.
func ruleOf(states, digit int) api.Rule {
	rest, next := digit/(states+1), digit%(states+1)
	return api.Rule{Write: rest / 2, Move: rest%2*2 - 1, Next: next}
}

// build returns the machine with a number, which must be one of a machine.
func build(states, number int) api.Machine {
	rules := make([][]api.Rule, states)
	for state := range rules {
		rules[state] = make([]api.Rule, signs)
	}
	// The last digit of the number is that of the last rule.
	for at := states*signs - 1; at >= 0; at-- {
		rules[at/signs][at%signs] = ruleOf(states, number%digits(states))
		number /= digits(states)
	}
	return api.Machine{States: states, Signs: signs, Rules: rules}
}

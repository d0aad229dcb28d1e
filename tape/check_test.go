package tape_test

import (
	"math"
	"testing"

	"tapeworks/api"
	"tapeworks/tape"
)

// uniform makes a machine whose rules are all the same.
func uniform(states, signs int, rule api.Rule) api.Machine {
	m := api.Machine{States: states, Signs: signs}
	for range states {
		var rules []api.Rule
		for range signs {
			rules = append(rules, rule)
		}
		m.Rules = append(m.Rules, rules)
	}
	return m
}

// changed makes a valid machine of two states and two symbols and changes one rule.
func changed(state, sign int, rule api.Rule) api.Machine {
	m := uniform(2, 2, api.Rule{})
	m.Rules[state][sign] = rule
	return m
}

func TestCheckAcceptsEverySize(t *testing.T) {
	for states := 1; states <= api.MaxStates; states++ {
		for signs := 2; signs <= api.MaxSigns; signs++ {
			for _, rule := range []api.Rule{
				{Write: 0, Move: -1, Next: 0},
				{Write: signs - 1, Move: 0, Next: states},
				{Write: 1, Move: 1, Next: states - 1},
			} {
				if e := tape.Check(uniform(states, signs, rule)); e != api.OK {
					t.Errorf("%d states, %d symbols, %v: error %d", states, signs, rule, e)
				}
			}
		}
	}
}

func TestCheckSize(t *testing.T) {
	sizes := []struct{ states, signs int }{
		{0, 2}, {-1, 2}, {api.MaxStates + 1, 2}, {math.MinInt, 2}, {math.MaxInt, 2},
		{1, 1}, {1, 0}, {1, -1}, {1, api.MaxSigns + 1}, {1, math.MinInt}, {1, math.MaxInt},
		{0, 0}, {math.MaxInt, math.MaxInt},
	}
	for _, s := range sizes {
		if e := tape.Check(api.Machine{States: s.states, Signs: s.signs}); e != api.ErrLarge {
			t.Errorf("%v without rules: error %d", s, e)
		}
	}
	for _, m := range []api.Machine{
		uniform(0, 2, api.Rule{}),
		uniform(api.MaxStates+1, 2, api.Rule{}),
		uniform(1, 1, api.Rule{}),
		uniform(1, api.MaxSigns+1, api.Rule{}),
		uniform(1, api.MaxSigns+1, api.Rule{Write: -1, Move: 2, Next: -1}),
	} {
		if e := tape.Check(m); e != api.ErrLarge {
			t.Errorf("%v: error %d", m, e)
		}
	}
}

func TestCheckForm(t *testing.T) {
	row := func(n int) []api.Rule { return make([]api.Rule, n) }
	bad := []api.Rule{{Write: 9, Move: 9, Next: 9}, {Write: 9, Move: 9, Next: 9}}
	for _, rules := range [][][]api.Rule{
		nil,
		{},
		{row(2)},
		{row(2), row(2), row(2)},
		{nil, row(2)},
		{row(2), nil},
		{row(1), row(2)},
		{row(2), row(1)},
		{row(3), row(2)},
		{row(2), row(3)},
		{row(1), row(3)},
		{bad, row(1)},      // the form of all lists comes before the rules
		{bad, bad, row(2)}, // so does the number of lists
	} {
		if e := tape.Check(api.Machine{States: 2, Signs: 2, Rules: rules}); e != api.ErrForm {
			t.Errorf("%v: error %d", rules, e)
		}
	}
}

func TestCheckReadsOnlyTheLength(t *testing.T) {
	m := uniform(2, 2, api.Rule{})
	m.Rules = m.Rules[:1]
	if e := tape.Check(m); e != api.ErrForm {
		t.Errorf("a list of one state, with room for a second: error %d", e)
	}
}

func TestCheckRules(t *testing.T) {
	cases := []struct {
		rule api.Rule
		want api.Errno
	}{
		{api.Rule{Write: 1, Move: 1, Next: 2}, api.OK},
		{api.Rule{Write: 0, Move: -1, Next: 0}, api.OK},
		{api.Rule{Write: -1}, api.ErrArg},
		{api.Rule{Write: 2}, api.ErrArg},
		{api.Rule{Write: math.MaxInt}, api.ErrArg},
		{api.Rule{Write: math.MinInt}, api.ErrArg},
		{api.Rule{Move: -2}, api.ErrRange},
		{api.Rule{Move: 2}, api.ErrRange},
		{api.Rule{Move: math.MinInt}, api.ErrRange},
		{api.Rule{Move: math.MaxInt}, api.ErrRange},
		{api.Rule{Next: -1}, api.ErrArg},
		{api.Rule{Next: 3}, api.ErrArg},
		{api.Rule{Next: math.MinInt}, api.ErrArg},
		{api.Rule{Next: math.MaxInt}, api.ErrArg},
		{api.Rule{Write: 2, Move: 2}, api.ErrArg},
		{api.Rule{Move: 2, Next: 3}, api.ErrRange},
		{api.Rule{Write: 2, Move: 2, Next: 3}, api.ErrArg},
	}
	for _, c := range cases {
		for state := range 2 {
			for sign := range 2 {
				if e := tape.Check(changed(state, sign, c.rule)); e != c.want {
					t.Errorf("%v for state %d and symbol %d: error %d, want %d", c.rule, state, sign, e, c.want)
				}
			}
		}
	}
}

func TestCheckFirstInvalidRule(t *testing.T) {
	badWrite, badMove, badNext := api.Rule{Write: 2}, api.Rule{Move: 2}, api.Rule{Next: 3}
	cases := []struct {
		rules [][]api.Rule
		want  api.Errno
	}{
		{[][]api.Rule{{badMove, badWrite}, {{}, {}}}, api.ErrRange},
		{[][]api.Rule{{badWrite, badMove}, {{}, {}}}, api.ErrArg},
		{[][]api.Rule{{badNext, badMove}, {{}, {}}}, api.ErrArg},
		{[][]api.Rule{{badMove, badNext}, {{}, {}}}, api.ErrRange},
		{[][]api.Rule{{{}, badMove}, {badWrite, {}}}, api.ErrRange},
		{[][]api.Rule{{{}, badNext}, {badMove, {}}}, api.ErrArg},
		{[][]api.Rule{{{}, {}}, {badMove, badWrite}}, api.ErrRange},
	}
	for _, c := range cases {
		if e := tape.Check(api.Machine{States: 2, Signs: 2, Rules: c.rules}); e != c.want {
			t.Errorf("%v: error %d, want %d", c.rules, e, c.want)
		}
	}
}

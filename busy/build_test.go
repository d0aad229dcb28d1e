package busy_test

import (
	"math"
	"reflect"
	"slices"
	"testing"

	"tapeworks/api"
	"tapeworks/busy"
)

// numbered lists machines with their numbers, worked out by hand from the definition.
var numbered = []struct {
	states, number int
	m              api.Machine
}{
	// One state: the digit is 2*(2*Write + m) + Next, and the number is 8 times the first digit plus the second one.
	{1, 0, machine([]api.Rule{{Write: 0, Move: -1, Next: 0}, {Write: 0, Move: -1, Next: 0}})},
	{1, 1, machine([]api.Rule{{Write: 0, Move: -1, Next: 0}, {Write: 0, Move: -1, Next: 1}})},
	{1, 2, machine([]api.Rule{{Write: 0, Move: -1, Next: 0}, {Write: 0, Move: 1, Next: 0}})},
	{1, 4, machine([]api.Rule{{Write: 0, Move: -1, Next: 0}, {Write: 1, Move: -1, Next: 0}})},
	{1, 8, machine([]api.Rule{{Write: 0, Move: -1, Next: 1}, {Write: 0, Move: -1, Next: 0}})},
	{1, 16, machine([]api.Rule{{Write: 0, Move: 1, Next: 0}, {Write: 0, Move: -1, Next: 0}})},
	{1, 32, machine([]api.Rule{{Write: 1, Move: -1, Next: 0}, {Write: 0, Move: -1, Next: 0}})},
	{1, 43, machine([]api.Rule{{Write: 1, Move: -1, Next: 1}, {Write: 0, Move: 1, Next: 1}})},
	{1, 63, machine([]api.Rule{{Write: 1, Move: 1, Next: 1}, {Write: 1, Move: 1, Next: 1}})},
	// Two states: the digit is 3*(2*Write + m) + Next, and each one counts 12 times as much as the one behind it.
	{2, 0, machine(
		[]api.Rule{{Write: 0, Move: -1, Next: 0}, {Write: 0, Move: -1, Next: 0}},
		[]api.Rule{{Write: 0, Move: -1, Next: 0}, {Write: 0, Move: -1, Next: 0}})},
	{2, 2, machine(
		[]api.Rule{{Write: 0, Move: -1, Next: 0}, {Write: 0, Move: -1, Next: 0}},
		[]api.Rule{{Write: 0, Move: -1, Next: 0}, {Write: 0, Move: -1, Next: 2}})},
	{2, 12, machine(
		[]api.Rule{{Write: 0, Move: -1, Next: 0}, {Write: 0, Move: -1, Next: 0}},
		[]api.Rule{{Write: 0, Move: -1, Next: 1}, {Write: 0, Move: -1, Next: 0}})},
	{2, 144, machine(
		[]api.Rule{{Write: 0, Move: -1, Next: 0}, {Write: 0, Move: -1, Next: 1}},
		[]api.Rule{{Write: 0, Move: -1, Next: 0}, {Write: 0, Move: -1, Next: 0}})},
	{2, 5184, machine( // 3 * 1728
		[]api.Rule{{Write: 0, Move: 1, Next: 0}, {Write: 0, Move: -1, Next: 0}},
		[]api.Rule{{Write: 0, Move: -1, Next: 0}, {Write: 0, Move: -1, Next: 0}})},
	{2, 18371, machine( // the busy beaver, with the digits 10, 7, 6 and 11
		[]api.Rule{{Write: 1, Move: 1, Next: 1}, {Write: 1, Move: -1, Next: 1}},
		[]api.Rule{{Write: 1, Move: -1, Next: 0}, {Write: 1, Move: 1, Next: 2}})},
	{2, 20735, machine(
		[]api.Rule{{Write: 1, Move: 1, Next: 2}, {Write: 1, Move: 1, Next: 2}},
		[]api.Rule{{Write: 1, Move: 1, Next: 2}, {Write: 1, Move: 1, Next: 2}})},
}

func TestBuild(t *testing.T) {
	for _, c := range numbered {
		if m, e := busy.Build(c.states, c.number); e != api.OK || !reflect.DeepEqual(m, c.m) {
			t.Errorf("%d states, %d: %v, error %d; want %v", c.states, c.number, m, e, c.m)
		}
	}
}

func TestNumber(t *testing.T) {
	for _, c := range numbered {
		if n, e := busy.Number(c.m); e != api.OK || n != c.number {
			t.Errorf("%v: %d, error %d; want %d", c.m, n, e, c.number)
		}
	}
}

// TestEveryNumber goes through all machines in the order of their numbers.
func TestEveryNumber(t *testing.T) {
	for states, count := range map[int]int{1: 64, 2: 20736} {
		all := machinesInOrder(states)
		if len(all) != count {
			t.Fatalf("%d states: %d machines, want %d", states, len(all), count)
		}
		for number, want := range all {
			if m, e := busy.Build(states, number); e != api.OK || !reflect.DeepEqual(m, want) {
				t.Fatalf("%d states, %d: %v, error %d; want %v", states, number, m, e, want)
			}
			if n, e := busy.Number(want); e != api.OK || n != number {
				t.Fatalf("%v: %d, error %d; want %d", want, n, e, number)
			}
		}
	}
}

func TestBuildErrors(t *testing.T) {
	cases := []struct {
		states, number int
		want           api.Errno
	}{
		{0, 0, api.ErrLarge},
		{-1, 0, api.ErrLarge},
		{3, 0, api.ErrLarge},
		{api.MaxStates, 0, api.ErrLarge},
		{math.MinInt, 0, api.ErrLarge},
		{math.MaxInt, 0, api.ErrLarge},
		{0, -1, api.ErrLarge}, // the states come before the number
		{3, -1, api.ErrLarge},
		{3, math.MaxInt, api.ErrLarge},
		{1, -1, api.ErrRange},
		{1, 64, api.ErrRange},
		{1, 20735, api.ErrRange}, // this is a number for two states
		{1, math.MinInt, api.ErrRange},
		{1, math.MaxInt, api.ErrRange},
		{2, -1, api.ErrRange},
		{2, 20736, api.ErrRange},
		{2, math.MinInt, api.ErrRange},
		{2, math.MaxInt, api.ErrRange},
	}
	for _, c := range cases {
		if m, e := busy.Build(c.states, c.number); e != c.want || m.States != 0 || m.Signs != 0 || len(m.Rules) != 0 {
			t.Errorf("%d states, %d: %v, error %d; want error %d", c.states, c.number, m, e, c.want)
		}
	}
}

func TestNumberErrors(t *testing.T) {
	left, rest := api.Rule{Move: -1}, api.Rule{}
	row := []api.Rule{left, left}
	sized := func(states, signs int, rules ...[]api.Rule) api.Machine {
		return api.Machine{States: states, Signs: signs, Rules: rules}
	}
	cases := []struct {
		name string
		m    api.Machine
		want api.Errno
	}{
		{"no states", api.Machine{}, api.ErrLarge},
		{"states below 0", sized(-1, 2), api.ErrLarge},
		{"too many states for a machine", sized(api.MaxStates+1, 2), api.ErrLarge},
		{"one symbol", sized(1, 1, []api.Rule{left}), api.ErrLarge},
		{"too many symbols for a machine", sized(1, api.MaxSigns+1), api.ErrLarge},
		{"size before form", sized(3, 1, row), api.ErrLarge},
		{"no rules", sized(1, 2), api.ErrForm},
		{"a list too few", sized(2, 2, row), api.ErrForm},
		{"a list too many", sized(1, 2, row, row), api.ErrForm},
		{"a rule too few", sized(2, 2, row, row[:1]), api.ErrForm},
		{"a rule too many", sized(1, 2, []api.Rule{left, left, left}), api.ErrForm},
		{"form before a wrong rule", sized(1, 2, []api.Rule{{Write: 2, Move: -1}}), api.ErrForm},
		{"write is not a symbol", sized(1, 2, []api.Rule{left, {Write: 2, Move: -1}}), api.ErrArg},
		{"write is below 0", sized(1, 2, []api.Rule{left, {Write: -1, Move: -1}}), api.ErrArg},
		{"move is too far to the left", sized(1, 2, []api.Rule{left, {Move: -2}}), api.ErrRange},
		{"move is too far to the right", sized(1, 2, []api.Rule{left, {Move: 2}}), api.ErrRange},
		{"next is not a state", sized(1, 2, []api.Rule{left, {Move: -1, Next: 2}}), api.ErrArg},
		{"next is below 0", sized(1, 2, []api.Rule{left, {Move: -1, Next: -1}}), api.ErrArg},
		{"first invalid rule, a move", sized(2, 2, []api.Rule{left, {Move: 3}}, []api.Rule{{Write: 2}, left}), api.ErrRange},
		{"first invalid rule, a symbol", sized(2, 2, []api.Rule{left, {Write: 2}}, []api.Rule{{Move: 3}, left}), api.ErrArg},
		{"no move, before a wrong symbol", sized(1, 2, []api.Rule{rest, {Write: 2, Move: 1}}), api.ErrArg},
		{"no move, before a wrong move", sized(1, 2, []api.Rule{rest, {Move: 2}}), api.ErrRange},
		{"three states, with a wrong state", sized(3, 2, row, row, []api.Rule{left, {Move: 1, Next: 4}}), api.ErrArg},
		{"three symbols, with a wrong move", sized(1, 3, []api.Rule{left, left, {Move: 2}}), api.ErrRange},
		{"three states", sized(3, 2, row, row, row), api.ErrForm},
		{"most states", sized(api.MaxStates, 2, slices.Repeat([][]api.Rule{row}, api.MaxStates)...), api.ErrForm},
		{"three symbols", sized(1, 3, []api.Rule{left, left, left}), api.ErrForm},
		{"most symbols", sized(2, api.MaxSigns, slices.Repeat(row, 2), slices.Repeat(row, 2)), api.ErrForm},
		{"no move, first rule", sized(1, 2, []api.Rule{rest, left}), api.ErrForm},
		{"no move, last rule", sized(1, 2, []api.Rule{left, rest}), api.ErrForm},
		{"no move, second state", sized(2, 2, row, []api.Rule{{Write: 1, Next: 2}, left}), api.ErrForm},
		{"no move, last rule of two states", sized(2, 2, row, []api.Rule{left, {Write: 1, Next: 2}}), api.ErrForm},
	}
	for _, c := range cases {
		if n, e := busy.Number(c.m); e != c.want || n != 0 {
			t.Errorf("%s: %d, error %d; want error %d", c.name, n, e, c.want)
		}
	}
}

// TestNumberReadsOnlyTheLength: what lies beyond the length of a list is neither read nor written.
func TestNumberReadsOnlyTheLength(t *testing.T) {
	rulesWithMore := func() [][]api.Rule {
		return [][]api.Rule{{{Move: 1}, {Write: 1, Move: -1, Next: 1}, {Write: 7}}, {{Next: -7}}}
	}
	rules := rulesWithMore()
	rules[0] = rules[0][:2]
	m := machine(rules[:1]...)
	if n, e := busy.Number(m); e != api.OK || n != 2*8+5 {
		t.Errorf("%d, error %d", n, e)
	}
	rules[0] = rules[0][:3]
	if !reflect.DeepEqual(rules, rulesWithMore()) {
		t.Errorf("the rules became %v", rules)
	}
	m = machine(rules[:1]...)
	m.Rules[0] = m.Rules[0][:1]
	if n, e := busy.Number(m); e != api.ErrForm || n != 0 {
		t.Errorf("a list of one rule, with room for more: %d, error %d", n, e)
	}
}

func TestResultsAreNew(t *testing.T) {
	for _, c := range numbered {
		m, _ := busy.Build(c.states, c.number)
		for state, rules := range m.Rules {
			m.Rules[state] = append(rules, api.Rule{Write: 9}) // an append that stays within the capacity would show in a list that shares it
			m.Rules[state][0].Write = 10 + state
		}
		for state, rules := range m.Rules {
			first, second := c.m.Rules[state][0], c.m.Rules[state][1]
			first.Write = 10 + state
			if rules[0] != first || rules[1] != second || rules[2].Write != 9 {
				t.Errorf("%d states, %d: the lists of a result share memory: %v", c.states, c.number, m)
			}
		}
		if again, e := busy.Build(c.states, c.number); e != api.OK || !reflect.DeepEqual(again, c.m) {
			t.Errorf("%d states, %d: a result depends on an earlier one: %v", c.states, c.number, again)
		}
	}
}

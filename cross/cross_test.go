package cross_test

import (
	"math"
	"reflect"
	"slices"
	"testing"

	"tapeworks/api"
	"tapeworks/cross"
	"tapeworks/tape"
)

// always makes a machine of one state and two symbols with the same rule for both.
func always(write, move, next int) api.Machine {
	rule := api.Rule{Write: write, Move: move, Next: next}
	return api.Machine{States: 1, Signs: 2, Rules: [][]api.Rule{{rule, rule}}}
}

// shuttle makes a machine that goes to and fro between two cells: right in state 0, left in state 1.
func shuttle() api.Machine {
	right, left := api.Rule{Move: 1, Next: 1}, api.Rule{Move: -1, Next: 0}
	return api.Machine{States: 2, Signs: 2, Rules: [][]api.Rule{{right, right}, {left, left}}}
}

// back makes a machine that goes right over ones, turns at the first blank, rests there for a step, and goes left until it halts on a blank.
func back() api.Machine {
	return api.Machine{States: 3, Signs: 2, Rules: [][]api.Rule{
		{{Write: 0, Move: 0, Next: 1}, {Write: 1, Move: 1, Next: 0}},
		{{Write: 0, Move: -1, Next: 2}, {Write: 1, Move: -1, Next: 2}},
		{{Write: 0, Move: -1, Next: 3}, {Write: 1, Move: -1, Next: 2}},
	}}
}

// beaver is the busy beaver of two states and two symbols. Its head goes 0, 1, 0, -1, -2, -1, 0.
func beaver() api.Machine {
	return api.Machine{States: 2, Signs: 2, Rules: [][]api.Rule{
		{{Write: 1, Move: 1, Next: 1}, {Write: 1, Move: -1, Next: 1}},
		{{Write: 1, Move: -1, Next: 0}, {Write: 1, Move: 1, Next: 2}},
	}}
}

func ones(n int) []int {
	return slices.Repeat([]int{1}, n)
}

func TestOver(t *testing.T) {
	const far = api.MaxSteps
	cases := []struct {
		name          string
		m             api.Machine
		input         []int
		steps, border int
		want          []int
	}{
		{"always right, the border behind it", always(0, 1, 0), nil, 10, 0, nil},
		{"always right, the first border", always(0, 1, 0), nil, 10, 1, []int{0}},
		{"always right, a later border", always(0, 1, 0), nil, 10, 10, []int{0}},
		{"always right, one step too few", always(0, 1, 0), nil, 10, 11, nil},
		{"always right, a border on the left", always(0, 1, 0), nil, 10, -1, nil},
		{"always left, the first border", always(0, -1, 0), nil, 10, 0, []int{0}},
		{"always left, a later border", always(0, -1, 0), nil, 10, -9, []int{0}},
		{"always left, one step too few", always(0, -1, 0), nil, 10, -10, nil},
		{"always left, a border on the right", always(0, -1, 0), nil, 10, 1, nil},
		{"stays", always(1, 0, 0), ones(2), 10, 0, nil},
		{"no step", always(0, 1, 0), ones(2), 0, 1, nil},
		{"to and fro", shuttle(), nil, 5, 1, []int{1, 0, 1, 0, 1}},
		{"to and fro, the border beside", shuttle(), nil, 5, 0, nil},
		{"to and fro, the other border beside", shuttle(), nil, 5, 2, nil},
		{"to and fro, most steps", shuttle(), nil, far, 1, slices.Repeat([]int{1, 0}, far/2)},
		{"halts as it crosses to the right", always(1, 1, 1), nil, 10, 1, []int{1}},
		{"halts as it crosses to the left", always(1, -1, 1), nil, 10, 0, []int{1}},
		{"halts where it stands", always(1, 0, 1), nil, 10, 0, nil},
		{"there and back, before the input", back(), ones(2), 20, 0, []int{2}},
		{"there and back, within the input", back(), ones(2), 20, 1, []int{0, 2}},
		{"there and back, behind the input", back(), ones(2), 20, 2, []int{0, 2}},
		{"there and back, beyond the turn", back(), ones(2), 20, 3, nil},
		{"there and back, halting beyond the input", back(), ones(2), 20, -1, []int{3}},
		{"there and back, one step before the halt", back(), ones(2), 6, -1, nil},
		{"there and back, cut off at the turn", back(), ones(2), 3, 2, []int{0}},
		{"beaver, on the right", beaver(), nil, 9, 1, []int{1, 0}},
		{"beaver, in the middle", beaver(), nil, 9, 0, []int{1, 2}},
		{"beaver, on the left", beaver(), nil, 9, -1, []int{0, 1}},
		{"farthest border on the right", always(1, 1, 0), ones(8), far, far, []int{0}},
		{"farthest crossing on the left", always(1, -1, 0), ones(8), far, 1 - far, []int{0}},
		{"farthest border on the left", always(1, -1, 0), ones(8), far, -far, nil},
	}
	for _, c := range cases {
		got, e := cross.Over(c.m, c.input, c.steps, c.border)
		if e != api.OK || !slices.Equal(got, c.want) {
			t.Errorf("%s: %v, error %d; want %v", c.name, got, e, c.want)
		}
	}
}

func TestAll(t *testing.T) {
	cases := []struct {
		name  string
		m     api.Machine
		input []int
		steps int
		want  [][]int
	}{
		{"no input", always(0, 1, 0), nil, 10, [][]int{{}}},
		{"empty input", always(0, -1, 0), []int{}, 10, [][]int{{0}}},
		{"always right", always(0, 1, 0), []int{1, 0, 0}, 10, [][]int{{}, {0}, {0}, {0}}},
		{"always right, few steps", always(0, 1, 0), []int{1, 0, 0}, 2, [][]int{{}, {0}, {0}, {}}},
		{"always left", always(0, -1, 0), []int{1, 0, 0}, 10, [][]int{{0}, {}, {}, {}}},
		{"no step", always(0, 1, 0), []int{1, 0}, 0, [][]int{{}, {}, {}}},
		{"to and fro", shuttle(), []int{1}, 4, [][]int{{}, {1, 0, 1, 0}}},
		{"there and back", back(), ones(3), 20, [][]int{{2}, {0, 2}, {0, 2}, {0, 2}}},
		{"halts within the input", always(0, 1, 1), ones(2), 20, [][]int{{}, {1}, {}}},
		{"longest input", always(1, 1, 0), ones(api.MaxInput), api.MaxSteps, append([][]int{{}}, slices.Repeat([][]int{{0}}, api.MaxInput)...)},
	}
	for _, c := range cases {
		got, e := cross.All(c.m, c.input, c.steps)
		if e != api.OK || !slices.EqualFunc(got, c.want, slices.Equal) {
			t.Errorf("%s: %v, error %d; want %v", c.name, got, e, c.want)
		}
	}
}

// TestRightCrossesEveryBorderOnce: the example of the chapter.
func TestRightCrossesEveryBorderOnce(t *testing.T) {
	m := always(0, 1, 0)
	for border := -api.MaxSteps; border <= api.MaxSteps; border++ {
		var want []int
		if border > 0 {
			want = []int{0}
		}
		if got, e := cross.Over(m, nil, api.MaxSteps, border); e != api.OK || !slices.Equal(got, want) {
			t.Errorf("border %d: %v, error %d; want %v", border, got, e, want)
		}
	}
}

// TestTapeBeyondMaxSteps: the range of a run's cells grows beyond what tape.Go accepts, and the crossings go on.
func TestTapeBeyondMaxSteps(t *testing.T) {
	m, input := always(1, -1, 0), ones(api.MaxInput)
	now, _, _ := tape.Run(m, input, api.MaxSteps)
	if len(now.Tape) <= api.MaxSteps {
		t.Fatalf("the tape has only %d symbols", len(now.Tape))
	}
	for border := 1 - api.MaxSteps; border <= 0; border++ {
		if got, e := cross.Over(m, input, api.MaxSteps, border); e != api.OK || !slices.Equal(got, []int{0}) {
			t.Errorf("border %d: %v, error %d", border, got, e)
		}
	}
}

func TestRunErrors(t *testing.T) {
	ok := always(0, 1, 0)
	bad := slices.Repeat([]int{2}, api.MaxInput+1)
	rules := func(row ...api.Rule) api.Machine {
		return api.Machine{States: 1, Signs: 2, Rules: [][]api.Rule{row}}
	}
	cases := []struct {
		name  string
		m     api.Machine
		input []int
		steps int
		want  api.Errno
	}{
		{"no states", api.Machine{}, nil, 1, api.ErrLarge},
		{"too many states", api.Machine{States: api.MaxStates + 1, Signs: 2}, nil, 1, api.ErrLarge},
		{"one symbol", api.Machine{States: 1, Signs: 1}, nil, 1, api.ErrLarge},
		{"too many symbols", api.Machine{States: 1, Signs: api.MaxSigns + 1}, nil, 1, api.ErrLarge},
		{"size before a wrong input", api.Machine{}, []int{7}, -1, api.ErrLarge},
		{"no rules", api.Machine{States: 1, Signs: 2}, nil, 1, api.ErrForm},
		{"a rule too few", rules(api.Rule{}), nil, 1, api.ErrForm},
		{"form before a long input", rules(api.Rule{Move: 2}), bad, -1, api.ErrForm},
		{"write is not a symbol", rules(api.Rule{}, api.Rule{Write: 2, Move: 2}), nil, 1, api.ErrArg},
		{"wrong move", rules(api.Rule{Move: 2, Next: 2}, api.Rule{Write: 2}), nil, 1, api.ErrRange},
		{"wrong next state", rules(api.Rule{Next: 2}, api.Rule{Move: 2}), nil, 1, api.ErrArg},
		{"rule before a long input", always(0, 2, 0), bad, -1, api.ErrRange},
		{"long input", ok, ones(api.MaxInput + 1), 1, api.ErrLarge},
		{"long input before a wrong symbol", ok, bad, -1, api.ErrLarge},
		{"symbol too great", ok, []int{0, 2}, 1, api.ErrArg},
		{"symbol below 0", ok, []int{-1}, 1, api.ErrArg},
		{"symbol before the number of steps", ok, []int{2}, -1, api.ErrArg},
		{"steps below 0", ok, nil, -1, api.ErrLong},
		{"too many steps", ok, nil, api.MaxSteps + 1, api.ErrLong},
		{"least number of steps", ok, nil, math.MinInt, api.ErrLong},
		{"greatest number of steps", ok, nil, math.MaxInt, api.ErrLong},
		{"too many steps for a machine that halts", always(1, 0, 1), nil, api.MaxSteps + 1, api.ErrLong},
	}
	for _, c := range cases {
		for _, border := range []int{1, api.MaxSteps + 1} { // a wrong border comes after all else
			if got, e := cross.Over(c.m, c.input, c.steps, border); e != c.want || len(got) != 0 {
				t.Errorf("%s, border %d: %v, error %d; want error %d", c.name, border, got, e, c.want)
			}
		}
		if got, e := cross.All(c.m, c.input, c.steps); e != c.want || len(got) != 0 {
			t.Errorf("%s, all borders: %v, error %d; want error %d", c.name, got, e, c.want)
		}
	}
}

func TestBorderErrors(t *testing.T) {
	for _, border := range []int{-api.MaxSteps - 1, api.MaxSteps + 1, math.MinInt, math.MaxInt} {
		for _, steps := range []int{0, api.MaxSteps} {
			if got, e := cross.Over(always(1, 1, 0), ones(2), steps, border); e != api.ErrRange || len(got) != 0 {
				t.Errorf("border %d, %d steps: %v, error %d", border, steps, got, e)
			}
		}
	}
}

func TestArgumentsStayAsTheyAre(t *testing.T) {
	m, before := beaver(), beaver()
	room := []int{1, 0, 1, 9, 9}
	input := room[:3]
	cross.Over(m, input, 20, 1)
	cross.All(m, input, 20)
	if !slices.Equal(room, []int{1, 0, 1, 9, 9}) {
		t.Errorf("the list became %v", room)
	}
	if !reflect.DeepEqual(m, before) {
		t.Errorf("the machine became %v", m)
	}
}

func TestResultsAreNew(t *testing.T) {
	m, input := back(), ones(3)
	one, _ := cross.Over(m, input, 20, 1)
	one[0] = 7
	if again, _ := cross.Over(m, input, 20, 1); !slices.Equal(again, []int{0, 2}) {
		t.Errorf("a result depends on an earlier one: %v", again)
	}
	all, _ := cross.All(m, input, 20)
	for i := range all {
		all[i] = append(all[i], 8) // an append that stays within the capacity would show in a list that shares it
		all[i][0] = 9 + i
	}
	for i, list := range all {
		if list[0] != 9+i || list[len(list)-1] != 8 {
			t.Errorf("the lists of a result share memory: %v", all)
		}
	}
	if !slices.Equal(input, ones(3)) {
		t.Errorf("the input became %v", input)
	}
	if again, _ := cross.All(m, input, 20); !slices.EqualFunc(again, [][]int{{2}, {0, 2}, {0, 2}, {0, 2}}, slices.Equal) {
		t.Errorf("a result depends on an earlier one: %v", again)
	}
}

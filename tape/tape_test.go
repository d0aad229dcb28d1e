package tape_test

import (
	"math"
	"reflect"
	"slices"
	"testing"

	"tapeworks/api"
	"tapeworks/tape"
)

// same compares configurations, with nil and empty tapes as equal.
func same(a, b api.Now) bool {
	return a.State == b.State && a.Head == b.Head && a.First == b.First && slices.Equal(a.Tape, b.Tape)
}

// isZero tells whether a result is what P2 asks for beside an error.
func isZero(now api.Now, done int) bool {
	return same(now, api.Now{}) && done == 0
}

// always makes a machine of one state and two symbols with the same rule for both.
func always(write, move, next int) api.Machine {
	return uniform(1, 2, api.Rule{Write: write, Move: move, Next: next})
}

// stay makes a machine that keeps its tape, its head and its state.
func stay() api.Machine {
	return api.Machine{States: 1, Signs: 2, Rules: [][]api.Rule{{{Write: 0}, {Write: 1}}}}
}

// beaver is the busy beaver of two states and two symbols: six steps, four ones.
func beaver() api.Machine {
	return api.Machine{States: 2, Signs: 2, Rules: [][]api.Rule{
		{{Write: 1, Move: 1, Next: 1}, {Write: 1, Move: -1, Next: 1}},
		{{Write: 1, Move: -1, Next: 0}, {Write: 1, Move: 1, Next: 2}},
	}}
}

func ones(n int) []int {
	return slices.Repeat([]int{1}, n)
}

func TestRun(t *testing.T) {
	flip := api.Machine{States: 1, Signs: 3, Rules: [][]api.Rule{
		{{Write: 0, Move: 0, Next: 1}, {Write: 2, Move: 1, Next: 0}, {Write: 1, Move: 1, Next: 0}},
	}}
	cases := []struct {
		name  string
		m     api.Machine
		input []int
		steps int
		now   api.Now
		done  int
	}{
		{"writes 1 and halts", always(1, 0, 1), nil, 5, api.Now{State: 1, Tape: []int{1}}, 1},
		{"writes 1, moves left and halts", always(1, -1, 1), nil, 5, api.Now{State: 1, Head: -1, First: -1, Tape: []int{0, 1}}, 1},
		{"no step", always(1, 1, 1), nil, 0, api.Now{Tape: []int{0}}, 0},
		{"no step, empty input", always(1, 1, 1), []int{}, 0, api.Now{Tape: []int{0}}, 0},
		{"no step, with input", always(1, 1, 1), []int{0, 1, 0}, 0, api.Now{Tape: []int{0, 1}}, 0},
		{"no step, blank input", always(1, 1, 1), []int{0, 0, 0}, 0, api.Now{Tape: []int{0}}, 0},
		{"erases its input", always(0, 1, 0), []int{1, 1, 1}, 2, api.Now{Head: 2, First: 2, Tape: []int{1}}, 2},
		{"erases all of its input", always(0, 1, 0), []int{1, 1}, 5, api.Now{Head: 5, First: 5, Tape: []int{0}}, 5},
		{"goes left of its input", stayMoving(-1), []int{1, 0}, 3, api.Now{Head: -3, First: -3, Tape: []int{0, 0, 0, 1}}, 3},
		{"goes right of its input", stayMoving(1), []int{1, 0}, 3, api.Now{Head: 3, Tape: []int{1, 0, 0, 0}}, 3},
		{"three symbols", flip, []int{1, 2, 1}, 9, api.Now{State: 1, Head: 3, Tape: []int{2, 1, 2, 0}}, 4},
		{"beaver, three steps", beaver(), nil, 3, api.Now{State: 1, Head: -1, First: -1, Tape: []int{0, 1, 1}}, 3},
		{"beaver, one step too few", beaver(), nil, 5, api.Now{State: 1, Head: -1, First: -2, Tape: ones(4)}, 5},
		{"beaver, just enough steps", beaver(), nil, 6, api.Now{State: 2, Head: 0, First: -2, Tape: ones(4)}, 6},
		{"beaver, more than enough steps", beaver(), nil, 7, api.Now{State: 2, Head: 0, First: -2, Tape: ones(4)}, 6},
		{"most steps to the right", always(1, 1, 0), nil, api.MaxSteps, api.Now{Head: api.MaxSteps, Tape: append(ones(api.MaxSteps), 0)}, api.MaxSteps},
		{"most steps to the left", always(1, -1, 0), nil, api.MaxSteps, api.Now{Head: -api.MaxSteps, First: -api.MaxSteps, Tape: append([]int{0}, ones(api.MaxSteps)...)}, api.MaxSteps},
		{"longest input", stay(), ones(api.MaxInput), 1, api.Now{Tape: ones(api.MaxInput)}, 1},
	}
	for _, c := range cases {
		now, done, e := tape.Run(c.m, c.input, c.steps)
		if e != api.OK || done != c.done || !same(now, c.now) {
			t.Errorf("%s: %v, %d steps, error %d; want %v, %d steps", c.name, now, done, e, c.now, c.done)
		}
	}
}

// stayMoving makes a machine that keeps every symbol and moves on and on.
func stayMoving(move int) api.Machine {
	return api.Machine{States: 1, Signs: 2, Rules: [][]api.Rule{{{Write: 0, Move: move}, {Write: 1, Move: move}}}}
}

func TestRunErrors(t *testing.T) {
	ok := stay()
	bad := slices.Repeat([]int{2}, api.MaxInput+1)
	cases := []struct {
		name  string
		m     api.Machine
		input []int
		steps int
		want  api.Errno
	}{
		{"no states before a wrong input", api.Machine{}, []int{7}, -1, api.ErrLarge},
		{"form before a long input", api.Machine{States: 1, Signs: 2}, bad, -1, api.ErrForm},
		{"rule before a long input", always(0, 2, 0), bad, -1, api.ErrRange},
		{"rule before a wrong number of steps", always(0, 0, 2), nil, -1, api.ErrArg},
		{"long input", ok, ones(api.MaxInput + 1), 1, api.ErrLarge},
		{"long input before a wrong symbol", ok, bad, -1, api.ErrLarge},
		{"symbol too great", ok, []int{0, 2}, 1, api.ErrArg},
		{"symbol below 0", ok, []int{-1, 0}, 1, api.ErrArg},
		{"greatest number as a symbol", ok, []int{math.MaxInt}, 1, api.ErrArg},
		{"least number as a symbol", ok, []int{math.MinInt}, 1, api.ErrArg},
		{"wrong symbol before a wrong number of steps", ok, []int{0, 0, 2}, -1, api.ErrArg},
		{"steps below 0", ok, nil, -1, api.ErrLong},
		{"too many steps", ok, nil, api.MaxSteps + 1, api.ErrLong},
		{"least number of steps", ok, nil, math.MinInt, api.ErrLong},
		{"greatest number of steps", ok, nil, math.MaxInt, api.ErrLong},
		{"too many steps for a machine that halts", always(1, 0, 1), nil, api.MaxSteps + 1, api.ErrLong},
	}
	for _, c := range cases {
		now, done, e := tape.Run(c.m, c.input, c.steps)
		if e != c.want || !isZero(now, done) {
			t.Errorf("%s: %v, %d steps, error %d; want error %d", c.name, now, done, e, c.want)
		}
	}
}

func TestGo(t *testing.T) {
	const far = api.MaxSteps
	all := slices.Concat([]int{1}, make([]int, far-2), []int{1})
	cases := []struct {
		name  string
		m     api.Machine
		now   api.Now
		steps int
		want  api.Now
		done  int
	}{
		{"zero configuration", stay(), api.Now{}, 0, api.Now{Tape: []int{0}}, 0},
		{"blanks around the range", stay(), api.Now{Head: 3, First: 1, Tape: []int{0, 0, 1, 0, 1, 0, 0}}, 0, api.Now{Head: 3, First: 3, Tape: []int{1, 0, 1}}, 0},
		{"head among the leading blanks", stay(), api.Now{Head: 2, First: 1, Tape: []int{0, 0, 0, 1, 0}}, 4, api.Now{Head: 2, First: 2, Tape: []int{0, 0, 1}}, 4},
		{"head among the trailing blanks", stay(), api.Now{Head: 4, First: 1, Tape: []int{0, 1, 0, 0, 0}}, 4, api.Now{Head: 4, First: 2, Tape: []int{1, 0, 0}}, 4},
		{"head left of the range", stay(), api.Now{Head: -2, First: 1, Tape: []int{1}}, 4, api.Now{Head: -2, First: -2, Tape: []int{0, 0, 0, 1}}, 4},
		{"head right of the range", stay(), api.Now{Head: 2, First: -2, Tape: []int{1, 1}}, 4, api.Now{Head: 2, First: -2, Tape: []int{1, 1, 0, 0, 0}}, 4},
		{"head outside of a blank range", stay(), api.Now{Head: -7, First: 5, Tape: []int{0, 0}}, 1, api.Now{Head: -7, First: -7, Tape: []int{0}}, 1},
		{"writes outside of the range", always(1, 1, 0), api.Now{Head: 4, First: 0, Tape: []int{1}}, 2, api.Now{Head: 6, First: 0, Tape: []int{1, 0, 0, 0, 1, 1, 0}}, 2},
		{"walks into the range", stayMoving(1), api.Now{Head: -1, First: 1, Tape: []int{1, 1}}, 3, api.Now{Head: 2, First: 1, Tape: []int{1, 1}}, 3},
		{"walks out of the range", stayMoving(-1), api.Now{Head: 1, First: 1, Tape: []int{1}}, 2, api.Now{Head: -1, First: -1, Tape: []int{0, 0, 1}}, 2},
		{"halted", always(1, 1, 0), api.Now{State: 1, Head: 2, First: 2, Tape: []int{1}}, 9, api.Now{State: 1, Head: 2, First: 2, Tape: []int{1}}, 0},
		{"halted, blanks around the range", always(1, 1, 0), api.Now{State: 1, Head: 1, First: -1, Tape: []int{0, 0, 0, 1, 0}}, 9, api.Now{State: 1, Head: 1, First: 1, Tape: []int{0, 1}}, 0},
		{"halted, head outside of the range", always(1, 1, 0), api.Now{State: 1, Head: -1, First: 1, Tape: []int{1, 0}}, 9, api.Now{State: 1, Head: -1, First: -1, Tape: []int{0, 0, 1}}, 0},
		{"halts on its last step", always(1, 0, 1), api.Now{Head: 5}, 1, api.Now{State: 1, Head: 5, First: 5, Tape: []int{1}}, 1},
		{"starts in another state", beaver(), api.Now{State: 1, Head: 3, First: 3, Tape: []int{1}}, 9, api.Now{State: 2, Head: 4, First: 3, Tape: []int{1, 0}}, 1},
		{"erases the ends", always(0, 1, 0), api.Now{Head: 2, First: 2, Tape: []int{1, 1, 1}}, 1, api.Now{Head: 3, First: 3, Tape: []int{1, 1}}, 1},
		{"longest range, farthest right", stay(), api.Now{Head: -far, First: far, Tape: all}, far, api.Now{Head: -far, First: -far, Tape: append(make([]int, 2*far), all...)}, far},
		{"farthest left", always(1, -1, 0), api.Now{Head: -far, First: -far}, far, api.Now{Head: -2 * far, First: -2 * far, Tape: append([]int{0}, ones(far)...)}, far},
		{"farthest head on the right", stay(), api.Now{Head: far, First: -far, Tape: []int{1}}, 0, api.Now{Head: far, First: -far, Tape: append([]int{1}, make([]int, 2*far)...)}, 0},
	}
	for _, c := range cases {
		now, done, e := tape.Go(c.m, c.now, c.steps)
		if e != api.OK || done != c.done || !same(now, c.want) {
			t.Errorf("%s: %v, %d steps, error %d; want %v, %d steps", c.name, now, done, e, c.want, c.done)
		}
	}
}

func TestGoErrors(t *testing.T) {
	const far = api.MaxSteps
	ok := stay()
	bad := slices.Repeat([]int{2}, far+1)
	cases := []struct {
		name  string
		m     api.Machine
		now   api.Now
		steps int
		want  api.Errno
	}{
		{"no states before all else", api.Machine{}, api.Now{State: 9, Tape: []int{7}}, -1, api.ErrLarge},
		{"form before a long tape", api.Machine{States: 1, Signs: 2}, api.Now{State: 9, Tape: bad}, -1, api.ErrForm},
		{"rule before a long tape", always(2, 0, 0), api.Now{State: 9, Tape: bad}, -1, api.ErrArg},
		{"rule before a wrong number of steps", always(0, 2, 0), api.Now{}, -1, api.ErrRange},
		{"long tape", ok, api.Now{Tape: make([]int, far+1)}, 1, api.ErrLarge},
		{"long tape before a wrong state", ok, api.Now{State: 2, Tape: bad}, -1, api.ErrLarge},
		{"state below 0", ok, api.Now{State: -1}, 1, api.ErrRange},
		{"state too great", ok, api.Now{State: 2}, 1, api.ErrRange},
		{"head too far left", ok, api.Now{Head: -far - 1}, 1, api.ErrRange},
		{"head too far right", ok, api.Now{Head: far + 1}, 1, api.ErrRange},
		{"range too far left", ok, api.Now{First: -far - 1}, 1, api.ErrRange},
		{"range too far right", ok, api.Now{First: far + 1}, 1, api.ErrRange},
		{"least numbers", ok, api.Now{State: math.MinInt, Head: math.MinInt, First: math.MinInt}, 1, api.ErrRange},
		{"least head", ok, api.Now{Head: math.MinInt}, 1, api.ErrRange},
		{"greatest first cell", ok, api.Now{First: math.MaxInt, Tape: []int{1, 1}}, 1, api.ErrRange},
		{"wrong state before a wrong symbol", ok, api.Now{State: 2, Tape: []int{2}}, -1, api.ErrRange},
		{"wrong head before a wrong symbol", ok, api.Now{Head: far + 1, Tape: []int{2}}, -1, api.ErrRange},
		{"wrong first cell before a wrong symbol", ok, api.Now{First: far + 1, Tape: []int{2}}, -1, api.ErrRange},
		{"symbol too great", ok, api.Now{Tape: []int{0, 2}}, 1, api.ErrArg},
		{"symbol below 0", ok, api.Now{Tape: []int{-1, 0}}, 1, api.ErrArg},
		{"wrong symbol of a machine that has halted", ok, api.Now{State: 1, Tape: []int{2}}, 1, api.ErrArg},
		{"wrong symbol before a wrong number of steps", ok, api.Now{Tape: []int{0, 0, 2}}, -1, api.ErrArg},
		{"steps below 0", ok, api.Now{}, -1, api.ErrLong},
		{"too many steps", ok, api.Now{}, far + 1, api.ErrLong},
		{"least number of steps", ok, api.Now{}, math.MinInt, api.ErrLong},
		{"greatest number of steps", ok, api.Now{}, math.MaxInt, api.ErrLong},
		{"too many steps of a machine that has halted", ok, api.Now{State: 1}, far + 1, api.ErrLong},
	}
	for _, c := range cases {
		now, done, e := tape.Go(c.m, c.now, c.steps)
		if e != c.want || !isZero(now, done) {
			t.Errorf("%s: %v, %d steps, error %d; want error %d", c.name, now, done, e, c.want)
		}
	}
}

func TestArgumentsStayAsTheyAre(t *testing.T) {
	m, before := beaver(), beaver()
	room := []int{1, 0, 1, 9, 9}
	input := room[:3]
	tape.Check(m)
	tape.Run(m, input, 20)
	tape.Go(m, api.Now{Head: 1, Tape: input}, 20)
	if !slices.Equal(room, []int{1, 0, 1, 9, 9}) {
		t.Errorf("the list became %v", room)
	}
	if !reflect.DeepEqual(m, before) {
		t.Errorf("the machine became %v", m)
	}
}

func TestResultsAreNew(t *testing.T) {
	m := stay()
	for _, steps := range []int{0, 1} {
		input := []int{1, 1}
		now, _, _ := tape.Run(m, input, steps)
		now.Tape[0] = 7
		next, _, _ := tape.Go(m, api.Now{Tape: input}, steps)
		next.Tape[1] = 8
		if !slices.Equal(input, []int{1, 1}) || now.Tape[1] != 1 {
			t.Errorf("%d steps: a result shares the memory of %v", steps, input)
		}
	}
	halted := api.Now{State: 1, Tape: []int{1}}
	end, _, _ := tape.Go(m, halted, 1)
	end.Tape[0] = 7
	if halted.Tape[0] != 1 {
		t.Error("the result of a machine that has halted shares the memory of its argument")
	}
	again, _, _ := tape.Go(m, halted, 1)
	if again.Tape[0] != 1 {
		t.Error("a result depends on an earlier call")
	}
}

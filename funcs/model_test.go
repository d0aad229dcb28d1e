package funcs_test

import (
	"slices"
	"testing"

	"tapeworks/api"
	"tapeworks/funcs"
)

// numbers makes a fixed sequence of numbers that looks arbitrary.
type numbers uint64

// below returns the next number that is at least 0 and less than n.
func (s *numbers) below(n int) int {
	*s = *s*6364136223846793005 + 1442695040888963407
	return int(*s>>33) % n
}

// list makes a list of up to longest numbers, each from low up to below high.
func (s *numbers) list(longest, low, high int) []int {
	var l []int
	for range s.below(longest + 1) {
		l = append(l, low+s.below(high-low))
	}
	return l
}

// function makes a function to stand at a place; its numbers are wrong now and then.
func (s *numbers) function(place int) api.Func {
	number := func(high int) int { return s.below(high+2) - s.below(2) }
	f := api.Func{Kind: 1 + s.below(5), Args: s.below(4), Pick: number(2), A: number(place), B: number(place), Into: s.list(3, 0, place+1)}
	switch s.below(25) {
	case 0:
		f.Kind = 6 * s.below(2)
	case 1:
		f.Args = 6*s.below(2) - 1
	case 2:
		f.Into = s.list(6, -1, place+2)
	}
	return f
}

// flaws lists what is wrong with a function that stands behind others, in order.
func flaws(before []api.Func, f api.Func) []api.Errno {
	var found []api.Errno
	note := func(e api.Errno, is bool) {
		if is {
			found = append(found, e)
		}
	}
	is := func(kind int) bool { return f.Kind == kind }
	wanted := map[int][]int{} // the numbers of arguments that are wanted of each function
	if is(api.FOf) {
		wanted[f.A] = append(wanted[f.A], len(f.Into))
		for _, k := range f.Into {
			wanted[k] = append(wanted[k], f.Args)
		}
	}
	if is(api.FAgain) {
		wanted[f.A] = append(wanted[f.A], f.Args-1)
		wanted[f.B] = append(wanted[f.B], f.Args+1)
	}
	stranger, misfit := false, false
	for k, lists := range wanted {
		if k < 0 || k >= len(before) {
			stranger = true
			continue
		}
		for _, n := range lists {
			misfit = misfit || before[k].Args != n
		}
	}
	note(api.ErrKind, !slices.Contains([]int{api.FZero, api.FNext, api.FPick, api.FOf, api.FAgain}, f.Kind))
	note(api.ErrLarge, f.Args < 0 || is(api.FNext) && f.Args != 1 || is(api.FAgain) && f.Args < 1 || f.Args > api.MaxArgs || is(api.FOf) && len(f.Into) > api.MaxArgs)
	note(api.ErrRange, is(api.FPick) && (f.Pick < 0 || f.Pick > f.Args-1))
	note(api.ErrArg, stranger)
	note(api.ErrForm, misfit)
	return found
}

func TestCheckAgreesWithModel(t *testing.T) {
	s := numbers(1)
	seen := map[api.Errno]int{}
	for range 300000 {
		l := basics()[:1+s.below(5)]
		want := api.OK
		for range 1 + s.below(3) {
			f := s.function(len(l))
			if found := flaws(l, f); want == api.OK && len(found) > 0 {
				want = found[0]
			}
			l = append(l, f)
		}
		seen[want]++
		if e := funcs.Check(l); e != want {
			t.Fatalf("%v: error %d, want %d", l, e, want)
		}
	}
	for _, e := range []api.Errno{api.OK, api.ErrKind, api.ErrLarge, api.ErrRange, api.ErrArg, api.ErrForm} {
		if seen[e] < 1000 {
			t.Errorf("only %d programs with error %d", seen[e], e)
		}
	}
}

// program makes a valid program that recurses and composes as soon as it can.
func (s *numbers) program() []api.Func {
	l := [][]api.Func{{next(), zero(0)}, sum(), double(), rounds()[:5]}[s.below(4)]
	for range 1 + s.below(4) {
		args := 1 + s.below(api.MaxArgs)
		l = append(l, pick(args, s.below(args)))
	}
	for tries := 0; len(l) < api.MaxFuncs && tries < 400; tries++ {
		f := s.function(len(l))
		if f.Kind > api.FPick && len(flaws(l, f)) == 0 {
			l = append(l, f)
		}
	}
	return l
}

type tooLong struct{}

// model evaluates a function from its last argument downwards, as the chapter defines it. It returns how many calls an evaluation upwards makes, and panics if these are too many or a value is too great.
func model(l []api.Func, number int, args []int) (value, calls int) {
	f := l[number]
	calls = 1
	part := func(number int, args ...int) int {
		v, n := model(l, number, args)
		calls += n
		return v
	}
	switch last := len(args) - 1; f.Kind {
	case api.FNext:
		value = args[0] + 1
	case api.FPick:
		value = args[f.Pick]
	case api.FOf:
		var values []int
		for _, k := range f.Into {
			values = append(values, part(k, args...))
		}
		value = part(f.A, values...)
	case api.FAgain:
		others := slices.Clone(args[:last])
		if args[last] == 0 {
			value = part(f.A, others...)
			break
		}
		x := args[last] - 1
		calls = 0 // the recursion is the same call
		before := part(number, append(slices.Clone(others), x)...)
		value = part(f.B, append(others, x, before)...)
	}
	if value > api.MaxSmall || calls > api.MaxFuel {
		panic(tooLong{})
	}
	return value, calls
}

// modelValue evaluates the last function.
func modelValue(l []api.Func, args []int) (value int, e api.Errno) {
	defer func() {
		if r := recover(); r != nil {
			if _, is := r.(tooLong); !is {
				panic(r)
			}
			value, e = 0, api.ErrLong
		}
	}()
	value, _ = model(l, len(l)-1, args)
	return value, api.OK
}

func TestValueAgreesWithModel(t *testing.T) {
	s := numbers(2)
	seen := map[api.Errno]int{}
	great := 0
	for range 20000 {
		l := s.program()
		for n := 1; n <= len(l); n++ {
			var args []int
			for range l[n-1].Args {
				args = append(args, s.below(api.MaxCount+1))
			}
			want, wantError := modelValue(l[:n], args)
			seen[wantError]++
			if want > 2*api.MaxCount {
				great++
			}
			if got, e := funcs.Value(l[:n], args); e != wantError || got != want {
				t.Fatalf("%v of %v: %d, error %d; want %d, error %d", l[:n], args, got, e, want, wantError)
			}
		}
	}
	if seen[api.ErrLong] < 100 || great < 100 {
		t.Errorf("only %d long evaluations, and %d great values", seen[api.ErrLong], great)
	}
}

// modelRank follows the references downwards.
func modelRank(l []api.Func, number int) int {
	f := l[number]
	if f.Kind == api.FOf {
		greatest := modelRank(l, f.A)
		for _, k := range f.Into {
			greatest = max(greatest, modelRank(l, k))
		}
		return greatest + 2
	}
	if f.Kind == api.FAgain {
		return max(modelRank(l, f.A), modelRank(l, f.B)) + 3
	}
	return 1
}

func TestRankAgreesWithModel(t *testing.T) {
	s := numbers(3)
	for range 3000 {
		l := s.program()
		for n := 1; n <= len(l); n++ {
			if got, e := funcs.Rank(l[:n]); e != api.OK || got != modelRank(l, n-1) {
				t.Fatalf("%v: %d, error %d; want %d", l[:n], got, e, modelRank(l, n-1))
			}
		}
	}
}

// TestRankBoundsGrowth: a value is less than that of the Ackermann function for the rank and the greatest argument.
func TestRankBoundsGrowth(t *testing.T) {
	s := numbers(4)
	bounded := 0
	for range 3000 {
		l := s.program()
		for n := 1; n <= len(l); n++ {
			rank, _ := funcs.Rank(l[:n])
			args := slices.Repeat([]int{s.below(7)}, l[n-1].Args)
			bound, e := funcs.Ack(rank, slices.Max(append(args, 0)))
			if e != api.OK {
				continue
			}
			bounded++
			if got, e := funcs.Value(l[:n], args); e != api.OK || got >= bound {
				t.Fatalf("%v of %v: %d, error %d; the rank is %d", l[:n], args, got, e, rank)
			}
		}
	}
	if bounded < 1000 {
		t.Errorf("only %d bounds", bounded)
	}
}

package funcs_test

import (
	"math"
	"slices"
	"testing"

	"tapeworks/api"
	"tapeworks/funcs"
)

func zero(args int) api.Func {
	return api.Func{Kind: api.FZero, Args: args}
}

func next() api.Func {
	return api.Func{Kind: api.FNext, Args: 1}
}

func pick(args, number int) api.Func {
	return api.Func{Kind: api.FPick, Args: args, Pick: number}
}

func of(args, a int, into ...int) api.Func {
	return api.Func{Kind: api.FOf, Args: args, A: a, Into: into}
}

func again(args, a, b int) api.Func {
	return api.Func{Kind: api.FAgain, Args: args, A: a, B: b}
}

// basics has a function of each number of arguments, by that number.
func basics() []api.Func {
	return []api.Func{zero(0), zero(1), zero(2), zero(3), zero(4)}
}

func TestCheckSize(t *testing.T) {
	wrong := api.Func{Kind: 9, Args: -1}
	cases := []struct {
		name string
		l    []api.Func
		want api.Errno
	}{
		{"no functions", nil, api.ErrLarge},
		{"an empty list of functions", []api.Func{}, api.ErrLarge},
		{"no functions within the length", []api.Func{next()}[:0], api.ErrLarge},
		{"one function", []api.Func{next()}, api.OK},
		{"as many functions as there can be", slices.Repeat([]api.Func{next()}, api.MaxFuncs), api.OK},
		{"one function too many", slices.Repeat([]api.Func{next()}, api.MaxFuncs+1), api.ErrLarge},
		{"length before a wrong function", slices.Repeat([]api.Func{wrong}, api.MaxFuncs+1), api.ErrLarge},
		{"a wrong function beyond the length", []api.Func{next(), wrong}[:1], api.OK},
		{"a wrong function", []api.Func{next(), wrong}, api.ErrKind},
	}
	for _, c := range cases {
		if e := funcs.Check(c.l); e != c.want {
			t.Errorf("%s: error %d, want %d", c.name, e, c.want)
		}
	}
}

// TestCheckFunc puts one function behind one of each number of arguments.
func TestCheckFunc(t *testing.T) {
	const most, least = math.MaxInt, math.MinInt
	cases := []struct {
		name string
		f    api.Func
		want api.Errno
	}{
		{"no kind", api.Func{}, api.ErrKind},
		{"kind below 0", api.Func{Kind: -1}, api.ErrKind},
		{"kind behind the last", api.Func{Kind: api.FAgain + 1}, api.ErrKind},
		{"least kind", api.Func{Kind: least}, api.ErrKind},
		{"greatest kind", api.Func{Kind: most}, api.ErrKind},
		{"kind before all else", api.Func{Kind: 9, Args: -1, Pick: -1, A: -1, B: -1, Into: []int{-1, -1, -1, -1, -1}}, api.ErrKind},

		{"FZero, no arguments", zero(0), api.OK},
		{"FZero, most arguments", zero(4), api.OK},
		{"FZero, Args below 0", zero(-1), api.ErrLarge},
		{"FZero, Args too great", zero(5), api.ErrLarge},
		{"FZero, least Args", zero(least), api.ErrLarge},
		{"FZero, greatest Args", zero(most), api.ErrLarge},

		{"FNext", next(), api.OK},
		{"FNext, no arguments", api.Func{Kind: api.FNext}, api.ErrLarge},
		{"FNext, two arguments", api.Func{Kind: api.FNext, Args: 2}, api.ErrLarge},
		{"FNext, Args below 0", api.Func{Kind: api.FNext, Args: -1}, api.ErrLarge},
		{"FNext, greatest Args", api.Func{Kind: api.FNext, Args: most}, api.ErrLarge},

		{"FPick, the only argument", pick(1, 0), api.OK},
		{"FPick, the last argument", pick(4, 3), api.OK},
		{"FPick, no arguments", pick(0, 0), api.ErrRange},
		{"FPick, Pick below 0", pick(4, -1), api.ErrRange},
		{"FPick, Pick too great", pick(2, 2), api.ErrRange},
		{"FPick, least Pick", pick(4, least), api.ErrRange},
		{"FPick, greatest Pick", pick(4, most), api.ErrRange},
		{"FPick, Args below 0", pick(-1, 0), api.ErrLarge},
		{"FPick, Args too great before Pick", pick(5, 5), api.ErrLarge},

		{"FOf, nothing into no arguments", of(3, 0), api.OK},
		{"FOf, no arguments", of(0, 2, 0, 0), api.OK},
		{"FOf, no arguments and nothing", of(0, 0), api.OK},
		{"FOf, most of all", of(4, 4, 4, 4, 4, 4), api.OK},
		{"FOf, Args below 0", of(-1, 0), api.ErrLarge},
		{"FOf, Args too great", of(5, 0), api.ErrLarge},
		{"FOf, Into too long", of(1, 4, 1, 1, 1, 1, 1), api.ErrLarge},
		{"FOf, Into too long before wrong references", of(1, -1, 9, 9, 9, 9, 9), api.ErrLarge},
		{"FOf, A below 0", of(1, -1, 1), api.ErrArg},
		{"FOf, A is itself", of(1, 5, 1), api.ErrArg},
		{"FOf, A is behind it", of(1, 6, 1), api.ErrArg},
		{"FOf, least A", of(1, least, 1), api.ErrArg},
		{"FOf, greatest A", of(1, most, 1), api.ErrArg},
		{"FOf, wrong A and nothing into it", of(1, 5), api.ErrArg},
		{"FOf, an element below 0", of(1, 2, 1, -1), api.ErrArg},
		{"FOf, an element is itself", of(1, 2, 5, 1), api.ErrArg},
		{"FOf, least element", of(1, 1, least), api.ErrArg},
		{"FOf, greatest element", of(1, 1, most), api.ErrArg},
		{"FOf, A takes too few", of(1, 1, 1, 1), api.ErrForm},
		{"FOf, A takes too many", of(1, 2, 1), api.ErrForm},
		{"FOf, A takes some, nothing into it", of(1, 1), api.ErrForm},
		{"FOf, an element takes too few", of(2, 2, 2, 1), api.ErrForm},
		{"FOf, an element takes too many", of(2, 2, 3, 2), api.ErrForm},
		{"FOf, a wrong element behind an A that takes too few", of(1, 1, 1, 5), api.ErrArg},
		{"FOf, a wrong element behind one that takes too many", of(1, 2, 2, 5), api.ErrArg},
		{"FOf, wrong A before elements that take too many", of(1, 5, 2), api.ErrArg},

		{"FAgain, one argument", again(1, 0, 2), api.OK},
		{"FAgain, three arguments", again(3, 2, 4), api.OK},
		{"FAgain, no arguments", again(0, 0, 1), api.ErrLarge},
		{"FAgain, Args below 0", again(-1, 0, 0), api.ErrLarge},
		{"FAgain, Args too great", again(5, 4, 4), api.ErrLarge},
		{"FAgain, most arguments, and none takes one more", again(4, 3, 4), api.ErrForm},
		{"FAgain, A below 0", again(1, -1, 2), api.ErrArg},
		{"FAgain, A is itself", again(1, 5, 2), api.ErrArg},
		{"FAgain, greatest A", again(1, most, 2), api.ErrArg},
		{"FAgain, B below 0", again(1, 0, -1), api.ErrArg},
		{"FAgain, B is itself", again(1, 0, 5), api.ErrArg},
		{"FAgain, least B", again(1, 0, least), api.ErrArg},
		{"FAgain, wrong B behind an A that takes too many", again(1, 1, 5), api.ErrArg},
		{"FAgain, A takes too many", again(2, 2, 3), api.ErrForm},
		{"FAgain, A takes too few", again(2, 0, 3), api.ErrForm},
		{"FAgain, B takes too few", again(2, 1, 2), api.ErrForm},
		{"FAgain, B takes too many", again(2, 1, 4), api.ErrForm},

		{"FZero ignores the rest", api.Func{Kind: api.FZero, Pick: -1, A: 9, B: most, Into: []int{9, 9, 9, 9, 9}}, api.OK},
		{"FNext ignores the rest", api.Func{Kind: api.FNext, Args: 1, Pick: 1, A: 9, B: -1, Into: []int{9, 9, 9, 9, 9}}, api.OK},
		{"FPick ignores the rest", api.Func{Kind: api.FPick, Args: 1, A: -1, B: 9, Into: []int{9, 9, 9, 9, 9}}, api.OK},
		{"FOf ignores Pick and B", api.Func{Kind: api.FOf, Args: 1, Pick: 1, A: 1, B: 9, Into: []int{1}}, api.OK},
		{"FAgain ignores Pick and Into", api.Func{Kind: api.FAgain, Args: 1, Pick: -1, A: 0, B: 2, Into: []int{9, 9, 9, 9, 9}}, api.OK},
	}
	for _, c := range cases {
		if e := funcs.Check(append(basics(), c.f)); e != c.want {
			t.Errorf("%s: error %d, want %d", c.name, e, c.want)
		}
		// Functions behind it neither help nor matter.
		if e := funcs.Check(append(append(basics(), c.f), zero(5), zero(1))); c.want != api.OK && e != c.want {
			t.Errorf("%s, with functions behind it: error %d, want %d", c.name, e, c.want)
		}
	}
}

func TestCheckFirstInvalidFunc(t *testing.T) {
	badKind, badArgs, badPick, badArg, badForm := api.Func{}, zero(5), pick(1, 1), of(1, -1), of(1, 0, 0)
	cases := []struct {
		l    []api.Func
		want api.Errno
	}{
		{[]api.Func{zero(0), badKind, badArgs, badPick, badArg, badForm}, api.ErrKind},
		{[]api.Func{zero(0), badArgs, badKind, badPick, badArg, badForm}, api.ErrLarge},
		{[]api.Func{zero(0), badPick, badKind, badArgs, badArg, badForm}, api.ErrRange},
		{[]api.Func{zero(0), badArg, badKind, badArgs, badPick, badForm}, api.ErrArg},
		{[]api.Func{zero(0), badForm, badKind, badArgs, badPick, badArg}, api.ErrForm},
		{[]api.Func{zero(0), zero(1), badForm, badKind}, api.ErrForm},
		{[]api.Func{of(0, 0)}, api.ErrArg},
		{[]api.Func{again(1, 0, 0)}, api.ErrArg},
		{[]api.Func{of(1, 1), zero(0)}, api.ErrArg},
		// A reference to a wrong function is not reached.
		{[]api.Func{badKind, of(1, 0)}, api.ErrKind},
	}
	for _, c := range cases {
		if e := funcs.Check(c.l); e != c.want {
			t.Errorf("%v: error %d, want %d", c.l, e, c.want)
		}
		if k, e := funcs.Value(c.l, []int{-1, -1, -1, -1, -1}); e != c.want || k != 0 {
			t.Errorf("Value of %v: %d, error %d, want %d", c.l, k, e, c.want)
		}
		if k, e := funcs.Rank(c.l); e != c.want || k != 0 {
			t.Errorf("Rank of %v: %d, error %d, want %d", c.l, k, e, c.want)
		}
	}
}

package funcs

import (
	"slices"

	"tapeworks/api"
)

// run is an evaluation of a valid program: fuel is how many more calls it may make.
type run struct {
	program []api.Func
	fuel    int
}

// call evaluates a function. It returns false if a value is too great or there are too many calls. Calls nest no deeper than the program is long, because functions use only preceding ones.
func (r *run) call(number int, args []int) (int, bool) {
	if r.fuel == 0 {
		return 0, false
	}
	r.fuel--
	f := r.program[number]
	switch f.Kind {
	case api.FNext:
		value := args[0] + 1
		return value, value <= api.MaxSmall
	case api.FPick:
		return args[f.Pick], true
	case api.FOf:
		return r.compose(f, args)
	case api.FAgain:
		return r.recurse(f, args)
	}
	return 0, true
}

// compose evaluates a composition.
func (r *run) compose(f api.Func, args []int) (int, bool) {
	values := make([]int, len(f.Into))
	for i, number := range f.Into {
		value, ok := r.call(number, args)
		if !ok {
			return 0, false
		}
		values[i] = value
	}
	return r.call(f.A, values)
}

// recurse evaluates a primitive recursion from 0 upwards, so that it is one call however often it recurses.
func (r *run) recurse(f api.Func, args []int) (int, bool) {
	others, last := args[:f.Args-1], args[f.Args-1]
	value, ok := r.call(f.A, others)
	for x := 0; ok && x < last; x++ {
		value, ok = r.call(f.B, slices.Concat(others, []int{x, value}))
	}
	return value, ok
}

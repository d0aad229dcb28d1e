package pair_test

import (
	"math"
	"testing"

	"tapeworks/api"
	"tapeworks/pair"
)

// greatest is the pairing of MaxPair and MaxPair: there are 1 + 2 + .. + 2*MaxPair pairs of a smaller sum.
const greatest = api.MaxPair*(2*api.MaxPair+1) + api.MaxPair

// pairings lists pairs with their pairings, worked out by hand from the definition.
var pairings = []struct {
	a, b int
	n    int64
}{
	{0, 0, 0},
	{1, 0, 1},
	{0, 1, 2},
	{2, 0, 3},
	{1, 1, 4},
	{0, 2, 5},
	{3, 0, 6},
	{2, 1, 7},
	{1, 2, 8},
	{0, 3, 9},
	{4, 0, 10},
	{0, 99, 5049},
	{52, 1, 1432},
	{65535, 0, 2147450880},
	{0, 65535, 2147516415},
	{65536, 0, 2147516416},
	{api.MaxPair, 0, 500000500000},
	{0, api.MaxPair, 500001500000},
	{api.MaxPair, 1, 500001500002},
	{1, api.MaxPair, 500002500001},
	{api.MaxPair, api.MaxPair - 1, 1999999999999},
	{api.MaxPair - 1, api.MaxPair, 2000000000000},
	{api.MaxPair, api.MaxPair, 2000002000000},
}

func TestPair(t *testing.T) {
	for _, c := range pairings {
		if n, e := pair.Pair(c.a, c.b); e != api.OK || n != c.n {
			t.Errorf("%d and %d: %d, error %d; want %d", c.a, c.b, n, e, c.n)
		}
	}
}

func TestOpen(t *testing.T) {
	for _, c := range pairings {
		if a, b, e := pair.Open(c.n); e != api.OK || a != c.a || b != c.b {
			t.Errorf("%d: %d and %d, error %d; want %d and %d", c.n, a, b, e, c.a, c.b)
		}
	}
}

func TestPairErrors(t *testing.T) {
	for _, wrong := range []int{-1, -2, -api.MaxPair, api.MaxPair + 1, 2 * api.MaxPair, math.MinInt, math.MaxInt, math.MinInt32, math.MaxInt32} {
		for _, other := range []int{0, 1, -wrong, wrong, api.MaxPair, api.MaxPair + 1, math.MinInt, math.MaxInt} {
			if n, e := pair.Pair(wrong, other); e != api.ErrRange || n != 0 {
				t.Errorf("%d and %d: %d, error %d", wrong, other, n, e)
			}
			if n, e := pair.Pair(other, wrong); e != api.ErrRange || n != 0 {
				t.Errorf("%d and %d: %d, error %d", other, wrong, n, e)
			}
		}
	}
}

func TestOpenErrors(t *testing.T) {
	cases := []int64{
		-1, -2, -4, math.MinInt64, math.MinInt64 + 1,
		500001500001,  // of MaxPair+1 and 0
		500002500002,  // of 0 and MaxPair+1
		500002500003,  // of MaxPair+2 and 0
		500002500004,  // of MaxPair+1 and 1
		500003500004,  // of 1 and MaxPair+1
		500003500005,  // of 0 and MaxPair+2
		greatest - 1,  // of MaxPair+1 and MaxPair-1
		greatest + 1,  // of MaxPair-1 and MaxPair+1
		2000000999999, // of 0 and 2*MaxPair-1
		2000001000000, // of 2*MaxPair and 0
		2000003000000, // of 0 and 2*MaxPair
		2000003000001, // of 2*MaxPair+1 and 0
		2000004000001, // of MaxPair+1 and MaxPair
		2000004000002, // of MaxPair and MaxPair+1
		1 << 53, 1 << 62, math.MaxInt64 - 1, math.MaxInt64,
	}
	for _, n := range cases {
		if a, b, e := pair.Open(n); e != api.ErrRange || a != 0 || b != 0 {
			t.Errorf("%d: %d and %d, error %d", n, a, b, e)
		}
	}
}

// TestPairCounts holds small pairs against a count of the pairs of a smaller sum.
func TestPairCounts(t *testing.T) {
	const high = 30
	for a := range high {
		for b := range high {
			want := int64(b)
			for x := range a + b {
				for y := range a + b {
					if x+y < a+b {
						want++
					}
				}
			}
			if n, e := pair.Pair(a, b); e != api.OK || n != want {
				t.Errorf("%d and %d: %d, error %d; want %d", a, b, n, e, want)
			}
		}
	}
}

// TestOpenFollowsDiagonals goes through the pairs in the order of their pairings.
func TestOpenFollowsDiagonals(t *testing.T) {
	a, b := 0, 0
	for n := range int64(500000) {
		if x, y, e := pair.Open(n); e != api.OK || x != a || y != b {
			t.Fatalf("%d: %d and %d, error %d; want %d and %d", n, x, y, e, a, b)
		}
		if got, e := pair.Pair(a, b); e != api.OK || got != n {
			t.Fatalf("%d and %d: %d, error %d; want %d", a, b, got, e, n)
		}
		if a == 0 {
			a, b = b+1, 0
		} else {
			a, b = a-1, b+1
		}
	}
}

// TestOpenUndoesPair goes through pairs of all magnitudes, up to the limit.
func TestOpenUndoesPair(t *testing.T) {
	s := numbers(1)
	for range 300000 {
		a, b := s.part(), s.part()
		n, e := pair.Pair(a, b)
		if want := sumUp(a+b) + int64(b); e != api.OK || n != want {
			t.Fatalf("%d and %d: %d, error %d; want %d", a, b, n, e, want)
		}
		if x, y, e := pair.Open(n); e != api.OK || x != a || y != b {
			t.Fatalf("%d and %d, paired as %d, open as %d and %d, error %d", a, b, n, x, y, e)
		}
	}
}

// TestOpenKeepsToLimits goes along the first diagonals that have pairs with a number that is too great, and past the last pair.
func TestOpenKeepsToLimits(t *testing.T) {
	for _, sum := range []int{api.MaxPair + 1, api.MaxPair + 2, 3 * api.MaxPair / 2, 2*api.MaxPair - 1, 2 * api.MaxPair, 2*api.MaxPair + 1} {
		for b := 0; b <= sum; b++ {
			a, wantError := sum-b, api.OK
			if a > api.MaxPair || b > api.MaxPair {
				wantError = api.ErrRange
			}
			x, y, e := pair.Open(sumUp(sum) + int64(b))
			if e != wantError || e == api.OK && (x != a || y != b) || e != api.OK && (x != 0 || y != 0) {
				t.Fatalf("the pairing of %d and %d: %d and %d, error %d; want error %d", a, b, x, y, e, wantError)
			}
		}
	}
}

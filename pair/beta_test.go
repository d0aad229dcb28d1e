package pair_test

import (
	"math"
	"math/big"
	"slices"
	"testing"

	"tapeworks/api"
	"tapeworks/pair"
)

// most is the greatest step of Beta.
const most = 1 << 40

func TestBeta(t *testing.T) {
	cases := []struct {
		a, b int64
		i    int
		want int64
	}{
		{7, 2, 0, 1},
		{7, 2, 1, 2},
		{7, 2, 2, 0},
		{7, 2, 3, 7},
		{0, 0, 0, 0},
		{0, 5, 3, 0},
		{9, 0, 0, 0},
		{math.MaxInt64, 0, api.MaxSmall, 0},
		{1, 1, 0, 1},
		{2, 1, 0, 0},
		{11, 1, 9, 0},
		{10, 1, 9, 10},
		{5, 1, api.MaxSmall, 5},
		{1002, 1, api.MaxSmall, 0},
		{1 << 40, most, 0, 1 << 40},
		{1<<40 + 1, most, 0, 0},
		{1<<40 + 2, most, 0, 1},
		{1 << 41, most, 0, 1<<40 - 1},
		{1001 << 40, most, api.MaxSmall, 1001 << 40},
		{1001<<40 + 1, most, api.MaxSmall, 0},
		{math.MaxInt64, 1, 0, 1},
		{math.MaxInt64, 6, 0, 0},
		{math.MaxInt64, most, 0, 1<<40 - 1<<23},
	}
	for _, c := range cases {
		if got, e := pair.Beta(c.a, c.b, c.i); e != api.OK || got != c.want {
			t.Errorf("%d, %d, %d: %d, error %d; want %d", c.a, c.b, c.i, got, e, c.want)
		}
	}
}

func TestBetaErrors(t *testing.T) {
	cases := []struct {
		name string
		a, b int64
		i    int
	}{
		{"a below 0", -1, 2, 0},
		{"least a", math.MinInt64, 2, 0},
		{"a below 0, of which the remainder would be 0", -3, 2, 0},
		{"b below 0", 7, -1, 0},
		{"b below 0, by which the divisor would be below 0", 7, -2, 1},
		{"least b", 7, math.MinInt64, 0},
		{"b too great", 7, most + 1, 0},
		{"greatest b", 7, math.MaxInt64, 0},
		{"greatest b and greatest index", 7, math.MaxInt64, api.MaxSmall},
		{"index below 0", 7, 2, -1},
		{"index below -1", 7, 2, -2},
		{"least index", 7, 2, math.MinInt},
		{"index too great", 7, 2, api.MaxSmall + 1},
		{"greatest index", 7, 2, math.MaxInt},
		{"index too great for b = 0", 7, 0, api.MaxSmall + 1},
		{"all below 0", -1, -1, -1},
		{"all too great", math.MaxInt64, math.MaxInt64, math.MaxInt},
	}
	for _, c := range cases {
		if got, e := pair.Beta(c.a, c.b, c.i); e != api.ErrRange || got != 0 {
			t.Errorf("%s: %d, error %d", c.name, got, e)
		}
	}
}

// TestBetaAgreesWithModel holds numbers of all magnitudes against numbers without bounds.
func TestBetaAgreesWithModel(t *testing.T) {
	s := numbers(2)
	for range 200000 {
		a, b, i := s.magnitude(63), s.magnitude(40), s.below(api.MaxSmall+1)
		divisor := new(big.Int).Mul(big.NewInt(int64(i)+1), big.NewInt(b))
		divisor.Add(divisor, big.NewInt(1))
		want := new(big.Int).Mod(big.NewInt(a), divisor).Int64()
		if got, e := pair.Beta(a, b, i); e != api.OK || got != want {
			t.Fatalf("%d, %d, %d: %d, error %d; want %d", a, b, i, got, e, want)
		}
	}
}

// checkFound tells what is wrong with what Find returns for a list.
func checkFound(t *testing.T, l []int) {
	a, b, e := pair.Find(l)
	if e != api.OK || a < 0 || a > 1<<60 || b < 0 || b > 1<<60 {
		t.Fatalf("%v: %d and %d, error %d", l, a, b, e)
	}
	for i, want := range l {
		if got, e := pair.Beta(a, b, i); e != api.OK || got != int64(want) {
			t.Fatalf("%v: found %d and %d, and then %d at %d, error %d", l, a, b, got, i, e)
		}
	}
}

// TestFindAll goes through all lists of all lengths.
func TestFindAll(t *testing.T) {
	for length := range api.MaxList + 1 {
		l := make([]int, length)
		for more := true; more; more = nextList(l) {
			checkFound(t, l)
		}
	}
}

func TestFindNothing(t *testing.T) {
	for _, l := range [][]int{nil, {}, []int{1, 2}[:0]} {
		if a, b, e := pair.Find(l); e != api.OK || a != 0 || b != 0 {
			t.Errorf("%v: %d and %d, error %d", l, a, b, e)
		}
	}
}

func TestFindErrors(t *testing.T) {
	const high = api.MaxCount + 1
	cases := []struct {
		name string
		l    []int
		want api.Errno
	}{
		{"one number too many", make([]int, api.MaxList+1), api.ErrLarge},
		{"many numbers", make([]int, 1000), api.ErrLarge},
		{"too many before a number below 0", slices.Repeat([]int{-1}, api.MaxList+1), api.ErrLarge},
		{"too many before a number too great", slices.Repeat([]int{high}, api.MaxList+1), api.ErrLarge},
		{"below 0", []int{-1}, api.ErrRange},
		{"too great", []int{high}, api.ErrRange},
		{"first below 0", []int{-1, 1, 2, 3, 4}, api.ErrRange},
		{"last below 0", []int{0, 1, 2, 3, -1}, api.ErrRange},
		{"first too great", []int{high, 0}, api.ErrRange},
		{"last too great", []int{0, 1, 2, 3, high}, api.ErrRange},
		{"one between", []int{0, high, 0}, api.ErrRange},
		{"least", []int{0, math.MinInt}, api.ErrRange},
		{"greatest", []int{0, math.MaxInt}, api.ErrRange},
	}
	for _, c := range cases {
		if a, b, e := pair.Find(c.l); e != c.want || a != 0 || b != 0 {
			t.Errorf("%s: %d and %d, error %d; want error %d", c.name, a, b, e, c.want)
		}
	}
}

func TestFindReadsOnly(t *testing.T) {
	room := []int{3, 0, 20, -1, -1, -1, -1}
	a, b, e := pair.Find(room[:3])
	if e != api.OK || !slices.Equal(room, []int{3, 0, 20, -1, -1, -1, -1}) {
		t.Errorf("error %d; the numbers became %v", e, room)
	}
	if x, y, e := pair.Find([]int{3, 0, 20}); e != api.OK || x != a || y != b {
		t.Errorf("numbers beyond the length count: %d and %d, error %d; without them %d and %d", a, b, e, x, y)
	}
}

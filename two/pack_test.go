package two_test

import (
	"math"
	"slices"
	"testing"

	"tapeworks/api"
	"tapeworks/two"
)

func TestPack(t *testing.T) {
	cases := []struct {
		have []int
		want int64
	}{
		{[]int{3}, 8},
		{[]int{0}, 1},
		{[]int{4}, 16},
		{[]int{0, 0, 0, 0}, 1},
		{[]int{1, 0, 0, 0}, 2},
		{[]int{0, 1, 0, 0}, 3},
		{[]int{0, 0, 1, 0}, 5},
		{[]int{0, 0, 0, 1}, 7},
		{[]int{3, 1}, 24},
		{[]int{0, 4}, 81},
		{[]int{1, 2, 3}, 2250},
		{[]int{4, 3, 2, 1}, 75600},
		{[]int{4, 4, 4, 4}, 1944810000},
	}
	for _, c := range cases {
		if n, e := two.Pack(c.have); e != api.OK || n != c.want {
			t.Errorf("%v: %d, error %d; want %d", c.have, n, e, c.want)
		}
	}
}

func TestPackErrors(t *testing.T) {
	const high = api.MaxPack + 1
	cases := []struct {
		name string
		have []int
		want api.Errno
	}{
		{"no counters", nil, api.ErrLarge},
		{"an empty list", []int{}, api.ErrLarge},
		{"no counters within the length", []int{1}[:0], api.ErrLarge},
		{"too many counters", make([]int, api.MaxCounts+1), api.ErrLarge},
		{"too many counters before wrong values", slices.Repeat([]int{-1}, api.MaxCounts+1), api.ErrLarge},
		{"value below 0", []int{-1}, api.ErrRange},
		{"value too great", []int{high}, api.ErrRange},
		{"last value below 0", []int{0, 1, 2, -1}, api.ErrRange},
		{"last value too great", []int{0, 1, 2, high}, api.ErrRange},
		{"value between", []int{0, high, 0}, api.ErrRange},
		{"least value", []int{math.MinInt}, api.ErrRange},
		{"greatest value", []int{math.MaxInt}, api.ErrRange},
	}
	for _, c := range cases {
		if n, e := two.Pack(c.have); e != c.want || n != 0 {
			t.Errorf("%s: %d, error %d; want error %d", c.name, n, e, c.want)
		}
	}
}

func TestOpen(t *testing.T) {
	cases := []struct {
		counters int
		n        int64
		want     []int
	}{
		{1, 8, []int{3}},
		{1, 1, []int{0}},
		{4, 1, []int{0, 0, 0, 0}},
		{2, 24, []int{3, 1}},
		{3, 24, []int{3, 1, 0}},
		{4, 7, []int{0, 0, 0, 1}},
		{4, 75600, []int{4, 3, 2, 1}},
		// Values beyond MaxPack, and beyond MaxCount.
		{1, 32, []int{5}},
		{1, 1 << 62, []int{62}},
		{2, 4052555153018976267, []int{0, 39}},
		{3, 7450580596923828125, []int{0, 0, 27}},
		{4, 3909821048582988049, []int{0, 0, 0, 22}},
		{4, 9481096396800000, []int{20, 10, 5, 2}},
	}
	for _, c := range cases {
		if got, e := two.Open(c.counters, c.n); e != api.OK || !slices.Equal(got, c.want) {
			t.Errorf("%d counters, %d: %v, error %d; want %v", c.counters, c.n, got, e, c.want)
		}
	}
}

func TestOpenErrors(t *testing.T) {
	cases := []struct {
		counters int
		n        int64
		want     api.Errno
	}{
		{0, 8, api.ErrLarge},
		{-1, 8, api.ErrLarge},
		{api.MaxCounts + 1, 8, api.ErrLarge},
		{math.MinInt, 8, api.ErrLarge},
		{math.MaxInt, 8, api.ErrLarge},
		{0, 0, api.ErrLarge},
		{api.MaxCounts + 1, -1, api.ErrLarge},
		{1, 0, api.ErrRange},
		{4, 0, api.ErrRange},
		{1, -1, api.ErrRange},
		{1, -8, api.ErrRange},
		{4, math.MinInt64, api.ErrRange},
		{1, 3, api.ErrNone},
		{1, 24, api.ErrNone},
		{2, 5, api.ErrNone},
		{3, 7, api.ErrNone},
		{3, 210, api.ErrNone},
		{4, 11, api.ErrNone},
		{4, 2 * 3 * 5 * 7 * 11, api.ErrNone},
		{4, 121, api.ErrNone},
		{4, math.MaxInt64, api.ErrNone},
	}
	for _, c := range cases {
		if got, e := two.Open(c.counters, c.n); e != c.want || len(got) != 0 {
			t.Errorf("%d counters, %d: %v, error %d; want error %d", c.counters, c.n, got, e, c.want)
		}
	}
}

// TestOpenFindsEncodingsOnly holds every number up to a bound against all encodings up to it.
func TestOpenFindsEncodingsOnly(t *testing.T) {
	const high = 3000
	for counters := 1; counters <= api.MaxCounts; counters++ {
		known := map[int64][]int{}
		for _, values := range allValues(counters, high) {
			known[encode(values)] = values
		}
		for n := int64(1); n <= high; n++ {
			want, e := known[n], api.OK
			if want == nil {
				e = api.ErrNone
			}
			if got, err := two.Open(counters, n); err != e || !slices.Equal(got, want) {
				t.Errorf("%d counters, %d: %v, error %d; want %v, error %d", counters, n, got, err, want, e)
			}
		}
	}
}

func TestOpenUndoesPack(t *testing.T) {
	for counters := 1; counters <= api.MaxCounts; counters++ {
		have := make([]int, counters)
		for more := true; more; more = nextValues(have, api.MaxPack) {
			n, e := two.Pack(have)
			if e != api.OK || n != encode(have) {
				t.Fatalf("%v: %d, error %d", have, n, e)
			}
			if got, e := two.Open(counters, n); e != api.OK || !slices.Equal(got, have) {
				t.Fatalf("%v, packed as %d, opens as %v, error %d", have, n, got, e)
			}
		}
	}
}

func TestPackReadsOnly(t *testing.T) {
	room := []int{3, 1, 9, 9}
	if n, e := two.Pack(room[:2]); e != api.OK || n != 24 {
		t.Errorf("values beyond the length count: %d, error %d", n, e)
	}
	if !slices.Equal(room, []int{3, 1, 9, 9}) {
		t.Errorf("the values became %v", room)
	}
}

func TestOpenReturnsNewLists(t *testing.T) {
	first, _ := two.Open(2, 24)
	first[0], first[1] = -7, -8
	if again, e := two.Open(2, 24); e != api.OK || !slices.Equal(again, []int{3, 1}) {
		t.Errorf("a result depends on an earlier one: %v, error %d", again, e)
	}
}

package tag_test

import (
	"math"
	"slices"
	"testing"

	"tapeworks/api"
	"tapeworks/tag"
)

// symbols returns a list of n symbols 0.
func symbols(n int) []int {
	return make([]int, n)
}

// lists returns a system that appends the same list for each of n symbols.
func lists(drop, n int, list ...int) api.Tag {
	t := api.Tag{Drop: drop}
	for range n {
		t.Bring = append(t.Bring, slices.Clone(list))
	}
	return t
}

// expectError wants both functions to refuse a system and a word, whatever the number of transitions is.
func expectError(t *testing.T, name string, signs int, g api.Tag, word []int, want api.Errno) {
	t.Helper()
	for _, turns := range []int{0, 1, api.MaxTurns, -1, api.MaxTurns + 1} {
		if got, done, e := tag.Run(signs, g, word, turns); e != want || len(got) != 0 || done != 0 {
			t.Errorf("%s: Run with %d transitions: %v, %d, error %d; want error %d", name, turns, got, done, e, want)
		}
	}
	if n, period, e := tag.Round(signs, g, word); e != want || n != 0 || period != 0 {
		t.Errorf("%s: Round: %d, %d, error %d; want error %d", name, n, period, e, want)
	}
}

func TestEverySize(t *testing.T) {
	for signs := 1; signs <= api.MaxSigns; signs++ {
		for drop := 1; drop <= api.MaxSigns; drop++ {
			g := lists(drop, signs, slices.Repeat([]int{signs - 1}, drop)...)
			for length := 0; length <= api.MaxTag; length++ {
				word := slices.Repeat([]int{signs - 1}, length)
				done, wantRound := 1, api.OK
				if length < drop {
					done, wantRound = 0, api.ErrNone
				}
				if got, n, e := tag.Run(signs, g, word, 1); e != api.OK || n != done || !slices.Equal(got, word) {
					t.Errorf("%d symbols, %v, %v: %v, %d, error %d", signs, g, word, got, n, e)
				}
				if n, period, e := tag.Round(signs, g, word); e != wantRound || n != done || period != done {
					t.Errorf("%d symbols, %v, %v: round %d, %d, error %d", signs, g, word, n, period, e)
				}
			}
		}
	}
}

func TestTooLarge(t *testing.T) {
	ok := lists(2, 2, 0, 1)
	for _, n := range []int{math.MinInt, -1, 0, api.MaxSigns + 1, math.MaxInt} {
		expectError(t, "number of symbols", n, ok, []int{0, 1}, api.ErrLarge)
		expectError(t, "number of removed symbols", 2, lists(n, 2, 0, 1), []int{0, 1}, api.ErrLarge)
	}
	expectError(t, "as many lists as symbols, but too many", 5, lists(2, 5, 0), nil, api.ErrLarge)
	expectError(t, "no symbols, no lists", 0, lists(2, 0), nil, api.ErrLarge)
	expectError(t, "long word", 2, ok, symbols(api.MaxTag+1), api.ErrLarge)
	for place := range 3 {
		g := lists(2, 3, 0)
		g.Bring[place] = symbols(api.MaxInput + 1)
		expectError(t, "long list", 3, g, []int{0, 1}, api.ErrLarge)
	}
}

func TestWrongNumberOfLists(t *testing.T) {
	for signs := 1; signs <= api.MaxSigns; signs++ {
		for n := range api.MaxSigns + 3 {
			if n != signs {
				expectError(t, "number of lists", signs, lists(1, n, 0), []int{0}, api.ErrForm)
			}
		}
	}
	g := lists(1, 2, 0)
	g.Bring = g.Bring[:1]
	expectError(t, "a list beyond the length", 2, g, []int{0}, api.ErrForm)
	expectError(t, "no lists", 1, api.Tag{Drop: 1}, nil, api.ErrForm)
}

func TestNoSymbol(t *testing.T) {
	for _, wrong := range []int{math.MinInt, -1, 2, 256, math.MaxInt} {
		for place := range 3 {
			word := symbols(3)
			word[place] = wrong
			expectError(t, "in the word", 2, lists(2, 2, 0, 1), word, api.ErrArg)
			list := symbols(3)
			list[place] = wrong
			for sign := range 2 {
				g := lists(2, 2, 0, 1)
				g.Bring[sign] = list
				expectError(t, "in a list", 2, g, []int{0, 1}, api.ErrArg)
				expectError(t, "in a list, with a final word", 2, g, nil, api.ErrArg)
			}
		}
	}
	for signs := 1; signs <= api.MaxSigns; signs++ {
		expectError(t, "one behind the last symbol, in the word", signs, lists(1, signs, 0), []int{signs}, api.ErrArg)
		expectError(t, "one behind the last symbol, in the lists", signs, lists(1, signs, signs), []int{0}, api.ErrArg)
	}
}

func TestOrderOfErrors(t *testing.T) {
	long := symbols(api.MaxInput + 1)
	badWord, longWord := []int{9, 9}, slices.Repeat([]int{9}, api.MaxTag+1)
	cases := []struct {
		name  string
		signs int
		g     api.Tag
		word  []int
		want  api.Errno
	}{
		{"symbols before all else", 0, lists(1, 2, 9), badWord, api.ErrLarge},
		{"removed symbols before all else", 1, lists(0, 2, 9), badWord, api.ErrLarge},
		{"length of the word before all else", 1, lists(1, 2, 9), longWord, api.ErrLarge},
		{"length of a list before all else", 1, lists(1, 2, slices.Repeat([]int{9}, 9)...), badWord, api.ErrLarge},
		{"length of a list too many", 1, api.Tag{Drop: 1, Bring: [][]int{{9}, long}}, badWord, api.ErrLarge},
		{"length of a list behind a wrong one", 2, api.Tag{Drop: 1, Bring: [][]int{{9}, long}}, badWord, api.ErrLarge},
		{"number of lists before their symbols", 1, lists(1, 2, 9), badWord, api.ErrForm},
		{"a list too few before wrong symbols", 2, lists(1, 1, 9), badWord, api.ErrForm},
		{"symbols of the lists", 1, lists(1, 1, 9), []int{0}, api.ErrArg},
		{"symbols of the word", 1, lists(1, 1, 0), badWord, api.ErrArg},
		{"a wrong symbol in a final word", 2, lists(4, 2, 0), badWord, api.ErrArg},
		{"a wrong symbol before the word grows too long", 2, lists(1, 2, symbols(8)...), []int{0, 9}, api.ErrArg},
	}
	for _, c := range cases {
		expectError(t, c.name, c.signs, c.g, c.word, c.want)
	}
}

// TestBeyondTheLength: what lies beyond the length of a list is not looked at.
func TestBeyondTheLength(t *testing.T) {
	lists := [][]int{{0, 0, -7}, {1, 99}, {-1}}
	g := api.Tag{Drop: 2, Bring: lists[:2]}
	g.Bring[0], g.Bring[1] = lists[0][:2], lists[1][:1]
	word := []int{1, 0, 1, 99}
	if got, done, e := tag.Run(2, g, word[:3], 9); e != api.OK || done != 2 || !slices.Equal(got, []int{1}) {
		t.Errorf("Run: %v, %d, error %d", got, done, e)
	}
	if n, period, e := tag.Round(2, g, []int{0, 0, 99}[:2]); e != api.OK || n != 1 || period != 1 {
		t.Errorf("Round: %d, %d, error %d", n, period, e)
	}
}

package tag_test

import (
	"math"
	"slices"
	"testing"

	"tapeworks/api"
	"tapeworks/tag"
)

// pairs is the system of the chapter: symbol 0 appends 0 0.
func pairs() api.Tag {
	return api.Tag{Drop: 2, Bring: [][]int{{0, 0}, {1}}}
}

// collatz halves an even number of zeros, and takes an odd number n of them to (3n+1)/2.
func collatz() api.Tag {
	return api.Tag{Drop: 2, Bring: [][]int{{1, 2}, {0}, {0, 0, 0}}}
}

// A system that grows slowly, one that turns in a long round, and one that ends late.
func slow() api.Tag    { return api.Tag{Drop: 2, Bring: [][]int{{0, 0}, {1, 1, 0}}} }
func turning() api.Tag { return api.Tag{Drop: 2, Bring: [][]int{{2}, {0}, {1, 0, 2, 1}, {}}} }
func ending() api.Tag  { return api.Tag{Drop: 2, Bring: [][]int{{1, 1, 2}, {1}, {2, 0, 0}, {}}} }

func lateTurn() []int { return []int{2, 0, 0, 0, 2, 1, 2, 2} }
func lateEnd() []int  { return []int{1, 2, 1, 2, 1, 2, 2, 2, 2, 2, 2, 0, 2, 1, 0} }

// later puts two symbols ahead of a word that bring nothing: the word is there one transition later.
func later(word []int) []int {
	return append([]int{3, 3}, word...)
}

func TestRun(t *testing.T) {
	grow := lists(1, 1, 0, 0)
	cases := []struct {
		name  string
		signs int
		g     api.Tag
		word  []int
		turns int
		want  []int
		done  int
	}{
		{"does not change", 2, pairs(), []int{0, 0}, 1, []int{0, 0}, 1},
		{"does not change, for long", 2, pairs(), []int{0, 0}, api.MaxTurns, []int{0, 0}, api.MaxTurns},
		{"ends", 2, pairs(), []int{1, 0, 1}, 9, []int{1}, 2},
		{"ends, just enough transitions", 2, pairs(), []int{1, 0, 1}, 2, []int{1}, 2},
		{"ends, one transition too few", 2, pairs(), []int{1, 0, 1}, 1, []int{1, 1}, 1},
		{"no transition", 2, pairs(), []int{1, 0, 1}, 0, []int{1, 0, 1}, 0},
		{"no transition of the longest word", 1, grow, symbols(api.MaxTag), 0, symbols(api.MaxTag), 0},
		{"the empty word is final", 2, pairs(), nil, 9, nil, 0},
		{"a short word is final", 2, pairs(), []int{1}, 9, []int{1}, 0},
		{"one symbol less than removed", 1, lists(4, 1, 0), symbols(3), 9, symbols(3), 0},
		{"as many symbols as removed", 1, lists(4, 1), symbols(4), 9, nil, 1},
		{"the first symbol counts, not the last one removed", 2, pairs(), []int{0, 1, 1, 1}, 1, []int{1, 1, 0, 0}, 1},
		{"removes the symbols before it appends", 3, api.Tag{Drop: 3, Bring: [][]int{{2, 1}, {0}, {0}}}, []int{0, 1, 2}, 1, []int{2, 1}, 1},
		{"a list keeps its order", 3, api.Tag{Drop: 1, Bring: [][]int{{0, 1, 2, 2, 1, 0, 0, 1}, {}, {}}}, []int{0, 2}, 1, []int{2, 0, 1, 2, 2, 1, 0, 0, 1}, 1},
		{"vanishes", 1, lists(1, 1), symbols(api.MaxTag), api.MaxTurns, nil, api.MaxTag},
		{"rotates", 3, api.Tag{Drop: 1, Bring: [][]int{{0}, {1}, {2}}}, []int{0, 1, 2, 1}, 6, []int{2, 1, 0, 1}, 6},
		{"grows up to the limit", 1, grow, []int{0}, api.MaxTag - 1, symbols(api.MaxTag), api.MaxTag - 1},
		{"halves 4", 3, collatz(), symbols(4), 4, symbols(2), 4},
		{"takes 3 to 5", 3, collatz(), symbols(3), 4, symbols(5), 4},
		{"takes 3 to 1", 3, collatz(), symbols(3), 24, symbols(1), 24},
		{"is final after the last transition", 4, ending(), lateEnd(), api.MaxTurns, []int{1}, api.MaxTurns},
		{"has 40 symbols one transition before it grows too long", 2, slow(), []int{1, 1}, api.MaxTurns - 1, append([]int{1}, symbols(39)...), api.MaxTurns - 1},
	}
	for _, c := range cases {
		got, done, e := tag.Run(c.signs, c.g, c.word, c.turns)
		if e != api.OK || done != c.done || !slices.Equal(got, c.want) {
			t.Errorf("%s: %v, %d transitions, error %d; want %v, %d", c.name, got, done, e, c.want, c.done)
		}
	}
}

func TestRunErrors(t *testing.T) {
	grow := lists(1, 1, 0, 0)
	cases := []struct {
		name  string
		signs int
		g     api.Tag
		word  []int
		turns int
		want  api.Errno
	}{
		{"transitions below 0", 2, pairs(), []int{0, 0}, -1, api.ErrRange},
		{"too many transitions", 2, pairs(), []int{0, 0}, api.MaxTurns + 1, api.ErrRange},
		{"least number of transitions", 2, pairs(), []int{0, 0}, math.MinInt, api.ErrRange},
		{"greatest number of transitions", 2, pairs(), []int{0, 0}, math.MaxInt, api.ErrRange},
		{"too many transitions of a final word", 2, pairs(), nil, api.MaxTurns + 1, api.ErrRange},
		{"too many transitions before a word too long", 1, grow, symbols(api.MaxTag), api.MaxTurns + 1, api.ErrRange},
		{"wrong symbol before a wrong number of transitions", 2, pairs(), []int{2}, -1, api.ErrArg},
		{"too long after the first transition", 1, grow, symbols(api.MaxTag), api.MaxTurns, api.ErrLong},
		{"too long after the last transition", 1, grow, []int{0}, api.MaxTag, api.ErrLong},
		{"too long after the only transition", 1, grow, symbols(api.MaxTag), 1, api.ErrLong},
		{"too long before the last transition", 1, grow, []int{0}, api.MaxTag + 1, api.ErrLong},
		{"too long in between, then short again", 2, api.Tag{Drop: 4, Bring: [][]int{{}, symbols(8)}}, append([]int{1}, symbols(38)...), 40, api.ErrLong},
		{"too long after the greatest number of transitions", 2, slow(), []int{1, 1}, api.MaxTurns, api.ErrLong},
	}
	for _, c := range cases {
		got, done, e := tag.Run(c.signs, c.g, c.word, c.turns)
		if e != c.want || len(got) != 0 || done != 0 {
			t.Errorf("%s: %v, %d transitions, error %d; want error %d", c.name, got, done, e, c.want)
		}
	}
}

func TestRound(t *testing.T) {
	rotate := api.Tag{Drop: 1, Bring: [][]int{{0}, {1}, {2}}}
	cases := []struct {
		name      string
		signs     int
		g         api.Tag
		word      []int
		n, period int
	}{
		{"does not change", 2, pairs(), []int{0, 0}, 1, 1},
		{"the longest word does not change", 1, lists(4, 1, symbols(4)...), symbols(api.MaxTag), 1, 1},
		{"comes back to the initial word", 3, rotate, []int{0, 1, 2, 1}, 4, 4},
		{"comes back before it is rotated once", 3, rotate, []int{0, 1, 0, 1}, 2, 2},
		{"rotates the longest word", 3, rotate, append(symbols(39), 1), 40, 40},
		{"does not come back to the initial word", 2, api.Tag{Drop: 1, Bring: [][]int{{0}, {}}}, []int{1, 0, 1, 0, 0}, 4, 1},
		{"a word of one symbol", 1, lists(1, 1, 0), []int{0}, 1, 1},
		{"grows, shrinks and comes back", 3, api.Tag{Drop: 2, Bring: [][]int{{0, 0}, {1, 0, 2, 0}, {}}}, append([]int{1}, symbols(35)...), 20, 19},
		{"the same symbols in another order", 2, api.Tag{Drop: 1, Bring: [][]int{{0}, {1}}}, []int{0, 0, 1}, 3, 3},
		{"words of zeros of two lengths differ", 2, api.Tag{Drop: 1, Bring: [][]int{{}, {1}}}, []int{0, 0, 1, 0}, 5, 1},
		{"the last transition", 4, turning(), lateTurn(), api.MaxTurns, 396},
	}
	for _, c := range cases {
		n, period, e := tag.Round(c.signs, c.g, c.word)
		if e != api.OK || n != c.n || period != c.period {
			t.Errorf("%s: %d, period %d, error %d; want %d, %d", c.name, n, period, e, c.n, c.period)
		}
	}
}

func TestRoundErrors(t *testing.T) {
	cases := []struct {
		name  string
		signs int
		g     api.Tag
		word  []int
		want  api.Errno
	}{
		{"the empty word", 2, pairs(), nil, api.ErrNone},
		{"a final word", 1, lists(4, 1, 0, 0, 0, 0), symbols(3), api.ErrNone},
		{"ends", 2, pairs(), []int{1, 0, 1}, api.ErrNone},
		{"vanishes", 1, lists(1, 1), symbols(api.MaxTag), api.ErrNone},
		{"ends with the last transition", 4, ending(), lateEnd(), api.ErrNone},
		{"ends one transition too late", 4, ending(), later(lateEnd()), api.ErrLong},
		{"too long after the first transition", 1, lists(1, 1, 0, 0), symbols(api.MaxTag), api.ErrLong},
		{"too long after many transitions", 1, lists(1, 1, 0, 0), []int{0}, api.ErrLong},
		{"too long, then it would end", 2, api.Tag{Drop: 4, Bring: [][]int{{}, symbols(8)}}, append([]int{1}, symbols(38)...), api.ErrLong},
		{"too long, then it would come back", 3, api.Tag{Drop: 2, Bring: [][]int{{0, 0}, {1, 0, 2, 0}, {}}}, append([]int{1}, symbols(39)...), api.ErrLong},
		{"too long with the last transition", 2, slow(), []int{1, 1}, api.ErrLong},
		{"comes back one transition too late", 4, turning(), later(lateTurn()), api.ErrLong},
	}
	for _, c := range cases {
		n, period, e := tag.Round(c.signs, c.g, c.word)
		if e != c.want || n != 0 || period != 0 {
			t.Errorf("%s: %d, period %d, error %d; want error %d", c.name, n, period, e, c.want)
		}
	}
}

func TestArgumentsStayAsTheyAre(t *testing.T) {
	room := []int{1, 0, 1, 9, 9, 9}
	lists := [][]int{{0, 0, 9, 9}, {1, 9, 9, 9}, {9}}
	g := api.Tag{Drop: 2, Bring: [][]int{lists[0][:2], lists[1][:1], lists[2]}[:2]}
	for turns := range 4 {
		tag.Run(2, g, room[:3], turns)
	}
	tag.Round(2, g, room[:3])
	tag.Round(2, g, room[1:3])
	if !slices.Equal(room, []int{1, 0, 1, 9, 9, 9}) {
		t.Errorf("the word became %v", room)
	}
	for i, want := range [][]int{{0, 0, 9, 9}, {1, 9, 9, 9}, {9}} {
		if !slices.Equal(lists[i], want) || !slices.Equal(g.Bring[:3][i], want[:[]int{2, 1, 1}[i]]) {
			t.Errorf("list %d became %v", i, lists[i])
		}
	}
}

func TestResultsAreNew(t *testing.T) {
	rotate := func() api.Tag { return api.Tag{Drop: 2, Bring: [][]int{{0, 1}, {1, 0}}} }
	for turns := range 5 {
		g, word := rotate(), []int{0, 1, 1, 0}
		first, _, _ := tag.Run(2, g, word, turns)
		want := slices.Clone(first)
		for i := range first {
			first[i] = -7
		}
		if !slices.Equal(word, []int{0, 1, 1, 0}) || !slices.EqualFunc(g.Bring, rotate().Bring, slices.Equal) {
			t.Errorf("%d transitions: the result shares memory with an argument", turns)
		}
		if again, _, _ := tag.Run(2, g, word, turns); !slices.Equal(again, want) {
			t.Errorf("%d transitions: a result depends on an earlier call: %v, want %v", turns, again, want)
		}
	}
	// With two symbols removed of two, the word is the list alone.
	g := rotate()
	first, _, _ := tag.Run(2, g, []int{0, 0}, 1)
	first[0], first[1] = -7, -7
	if !slices.Equal(g.Bring[0], []int{0, 1}) {
		t.Error("the result shares memory with a list of the system")
	}
}

package cell_test

import (
	"math"
	"slices"
	"testing"

	"tapeworks/api"
	"tapeworks/cell"
)

// cells makes a list of cells of a text with a 1 for each true cell.
func cells(text string) []bool {
	list := make([]bool, len(text))
	for i := range text {
		list[i] = text[i] == '1'
	}
	return list
}

// text writes a list of cells as a text.
func text(list []bool) string {
	word := make([]byte, len(list))
	for i, cell := range list {
		word[i] = '0'
		if cell {
			word[i] = '1'
		}
	}
	return string(word)
}

func TestStep(t *testing.T) {
	cases := []struct {
		name       string
		rule       int
		ring, want string
	}{
		{"does not change anything", 204, "1011000", "1011000"},
		{"does not change the longest ring", 204, "110100100011", "110100100011"},
		{"all become false", 0, "1011", "0000"},
		{"all become true", 255, "1011", "1111"},
		{"each becomes the opposite", 51, "1011000", "0100111"},
		{"each becomes its left neighbor", 240, "1011000", "0101100"},
		{"the first becomes the last", 240, "0000001", "1000000"},
		{"each becomes its right neighbor", 170, "1011000", "0110001"},
		{"the last becomes the first", 170, "1000000", "0000001"},
		{"the sum of both neighbors", 90, "0001000", "0010100"},
		{"the sum of both neighbors, around the ring", 90, "1000000", "0100001"},
		{"rule 110", 110, "00010011010", "00110111110"},
		{"rule 30", 30, "0001000", "0011100"},
		{"a false cell between a true and a false one, also around the ring", 1 << 4, "0100110", "0010001"},
		{"a false cell between a false and a true one, also around the ring", 1 << 1, "0100110", "1001000"},
		{"one cell is its own neighbor, true", 1 << 7, "1", "1"},
		{"one cell is its own neighbor, false", 1 << 0, "0", "1"},
		{"one cell, no other neighborhood", 255 - 1 - 1<<7, "1", "0"},
		{"two cells, each both neighbors of the other", 1 << 5, "01", "10"},
		{"two cells, no other neighborhood", 255 - 1<<5 - 1<<2, "01", "00"},
		{"longest ring, around it", 240, "000000000001", "100000000000"},
	}
	for _, c := range cases {
		if got, e := cell.Step(c.rule, cells(c.ring)); e != api.OK || text(got) != c.want {
			t.Errorf("%s: %s, error %d; want %s", c.name, text(got), e, c.want)
		}
	}
}

func TestMany(t *testing.T) {
	cases := []struct {
		name string
		rule int
		word string
		want int
	}{
		{"the empty word, of which all words of two cells are predecessors", 204, "", 4},
		{"the empty word, whatever the rule is", 0, "", 4},
		{"all words become false", 0, "0", 8},
		{"no word becomes true", 0, "1", 0},
		{"all words become false, longest word", 0, "000000000000", 1 << 14},
		{"no word becomes true at the end", 0, "000000000001", 0},
		{"all words become true, longest word", 255, "111111111111", 1 << 14},
		{"the word between any two cells", 204, "10110", 4},
		{"the word and any two cells behind it", 240, "10110", 4},
		{"any two cells and the word", 170, "10110", 4},
		{"any two cells settle the others", 90, "101101001110", 4},
		{"rule 110, one true cell", 110, "1", 5},
		{"rule 110, one false cell", 110, "0", 3},
		{"rule 110, orphan", 110, "01010", 0},
		{"only one way", 1 << 7, "111111111111", 1},
		{"the order of the word counts", 1 << 4, "01", 2},
		{"the order of the word counts, other one", 1 << 4, "10", 2},
	}
	for _, c := range cases {
		if got, e := cell.Many(c.rule, cells(c.word)); e != api.OK || got != c.want {
			t.Errorf("%s: %d, error %d; want %d", c.name, got, e, c.want)
		}
	}
}

func TestOrphan(t *testing.T) {
	cases := []struct {
		rule int
		want string
	}{
		{0, "1"},
		{255, "0"},
		{18, "111"},
		{22, "10010101"},
		{37, "100101001"},
		{54, "01101"},
		{91, "010010010"},
		{104, "10010101"},
		{110, "01010"},
		{126, "010"},
		{151, "01010110"},
		{164, "100101001"},
		{184, "1100"},
		{218, "010010010"},
		{233, "01010110"},
	}
	for _, c := range cases {
		if got, e := cell.Orphan(c.rule); e != api.OK || text(got) != c.want {
			t.Errorf("rule %d: %s, error %d; want %s", c.rule, text(got), e, c.want)
		}
	}
}

// onto lists the rules by which every word has a predecessor, as the literature has them.
func onto() []int {
	return []int{
		15, 30, 45, 51, 60, 75, 85, 86, 89, 90, 101, 102, 105, 106, 120,
		135, 149, 150, 153, 154, 165, 166, 169, 170, 180, 195, 204, 210, 225, 240,
	}
}

// single lists the rules by which different rows stay different: shifts, the identity, and these with the opposite cells.
func single() []int {
	return []int{15, 51, 85, 170, 204, 240}
}

func TestEveryRule(t *testing.T) {
	for rule := range 256 {
		wantOnto, wantSingle := slices.Contains(onto(), rule), slices.Contains(single(), rule)
		if is, e := cell.Onto(rule); e != api.OK || is != wantOnto {
			t.Errorf("Onto of rule %d: %v, error %d; want %v", rule, is, e, wantOnto)
		}
		if is, e := cell.Single(rule); e != api.OK || is != wantSingle {
			t.Errorf("Single of rule %d: %v, error %d; want %v", rule, is, e, wantSingle)
		}
		word, e := cell.Orphan(rule)
		if wantOnto && (e != api.ErrNone || len(word) != 0) || !wantOnto && (e != api.OK || len(word) == 0) {
			t.Errorf("Orphan of rule %d: %s, error %d", rule, text(word), e)
		}
	}
}

func TestNoRule(t *testing.T) {
	for _, rule := range []int{math.MinInt, -256, -1, 256, 256 + 204, math.MaxInt} {
		// The wrong rule comes before a wrong length.
		for n := range api.MaxRing + 2 {
			list := make([]bool, n)
			if got, e := cell.Step(rule, list); e != api.ErrRange || len(got) != 0 {
				t.Errorf("Step of rule %d, %d cells: %v, error %d", rule, n, got, e)
			}
			if got, e := cell.Many(rule, list); e != api.ErrRange || got != 0 {
				t.Errorf("Many of rule %d, %d cells: %d, error %d", rule, n, got, e)
			}
		}
		if got, e := cell.Orphan(rule); e != api.ErrRange || len(got) != 0 {
			t.Errorf("Orphan of rule %d: %v, error %d", rule, got, e)
		}
		if is, e := cell.Onto(rule); e != api.ErrRange || is {
			t.Errorf("Onto of rule %d: %v, error %d", rule, is, e)
		}
		if is, e := cell.Single(rule); e != api.ErrRange || is {
			t.Errorf("Single of rule %d: %v, error %d", rule, is, e)
		}
	}
}

func TestWrongLength(t *testing.T) {
	for _, rule := range []int{0, 204, 255} {
		for _, n := range []int{api.MaxRing + 1, api.MaxRing + 2, 1000} {
			if got, e := cell.Step(rule, make([]bool, n)); e != api.ErrLarge || len(got) != 0 {
				t.Errorf("Step of %d cells: %v, error %d", n, got, e)
			}
			if got, e := cell.Many(rule, make([]bool, n)); e != api.ErrLarge || got != 0 {
				t.Errorf("Many of %d cells: %d, error %d", n, got, e)
			}
		}
		for _, none := range [][]bool{nil, {}, make([]bool, 5)[:0]} {
			if got, e := cell.Step(rule, none); e != api.ErrLarge || len(got) != 0 {
				t.Errorf("Step of no cells: %v, error %d", got, e)
			}
			if got, e := cell.Many(rule, none); e != api.OK || got != 4 {
				t.Errorf("Many of no cells: %d, error %d", got, e)
			}
		}
	}
}

func TestArgumentsStayAsTheyAre(t *testing.T) {
	for rule := range 256 {
		room := cells("1011011101100101")
		for n := 1; n <= api.MaxRing; n++ {
			cell.Step(rule, room[:n])
			cell.Many(rule, room[:n])
		}
		if text(room) != "1011011101100101" {
			t.Fatalf("rule %d: the list became %s", rule, text(room))
		}
	}
}

// TestBeyondTheLength: what lies beyond the length of a list is not looked at.
func TestBeyondTheLength(t *testing.T) {
	for rule := range 256 {
		one, other := cells("10110111"), cells("10110000")
		first, _ := cell.Step(rule, one[:5])
		second, _ := cell.Step(rule, other[:5])
		if !slices.Equal(first, second) {
			t.Errorf("rule %d: %s and %s", rule, text(first), text(second))
		}
		many, _ := cell.Many(rule, one[:5])
		if again, _ := cell.Many(rule, other[:5]); many != again {
			t.Errorf("rule %d: %d and %d", rule, many, again)
		}
	}
}

func TestResultsAreNew(t *testing.T) {
	ring := cells("1011")
	for _, rule := range []int{204, 0, 110} {
		first, _ := cell.Step(rule, ring)
		want := slices.Clone(first)
		for i := range first {
			first[i] = !first[i]
		}
		if text(ring) != "1011" {
			t.Fatalf("rule %d: the ring became %s", rule, text(ring))
		}
		if again, _ := cell.Step(rule, ring); !slices.Equal(again, want) {
			t.Errorf("rule %d: a result depends on an earlier one: %s", rule, text(again))
		}
	}
	word, _ := cell.Orphan(110)
	clear(word)
	if again, _ := cell.Orphan(110); text(again) != "01010" {
		t.Errorf("an orphan depends on an earlier one: %s", text(again))
	}
}

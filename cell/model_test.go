package cell_test

import (
	"fmt"
	"testing"

	"tapeworks/api"
	"tapeworks/cell"
)

// table writes a rule as a map from neighborhoods to cells, all of them digits.
func table(rule int) map[string]byte {
	next := make(map[string]byte)
	for i := range 8 {
		next[fmt.Sprintf("%03b", i)] = fmt.Sprintf("%08b", rule)[7-i]
	}
	return next
}

// inner returns what the inner cells of a word become.
func inner(next map[string]byte, word string) string {
	var out []byte
	for i := 0; i+3 <= len(word); i++ {
		out = append(out, next[word[i:i+3]])
	}
	return string(out)
}

// words lists the words of n cells in lexicographic order.
func words(n int) []string {
	list := []string{""}
	for range n {
		var longer []string
		for _, word := range list {
			longer = append(longer, word+"0", word+"1")
		}
		list = longer
	}
	return list
}

// predecessors counts, for each word of n cells that has predecessors, how many there are.
func predecessors(next map[string]byte, n int) map[string]int {
	counts := make(map[string]int)
	for _, word := range words(n + 2) {
		counts[inner(next, word)]++
	}
	return counts
}

func TestStepAgreesWithModel(t *testing.T) {
	for rule := range 256 {
		next := table(rule)
		for n := 1; n <= 7; n++ {
			for _, ring := range words(n) {
				want := inner(next, ring[n-1:]+ring+ring[:1])
				if got, e := cell.Step(rule, cells(ring)); e != api.OK || text(got) != want {
					t.Fatalf("rule %d, %s: %s, error %d; want %s", rule, ring, text(got), e, want)
				}
			}
		}
	}
}

func TestManyAgreesWithModel(t *testing.T) {
	for rule := range 256 {
		longest := 6
		if rule%50 == 10 {
			longest = api.MaxRing
		}
		for n := range longest + 1 {
			counts := predecessors(table(rule), n)
			for _, word := range words(n) {
				if got, e := cell.Many(rule, cells(word)); e != api.OK || got != counts[word] {
					t.Fatalf("rule %d, %s: %d, error %d; want %d", rule, word, got, e, counts[word])
				}
			}
		}
	}
}

// firstOrphan looks through all words of up to longest cells, in order.
func firstOrphan(rule, longest int) string {
	for n := range longest + 1 {
		counts := predecessors(table(rule), n)
		for _, word := range words(n) {
			if counts[word] == 0 {
				return word
			}
		}
	}
	return ""
}

func TestOrphanAgreesWithModel(t *testing.T) {
	for rule := range 256 {
		want, wantError := firstOrphan(rule, 9), api.OK
		if want == "" {
			wantError = api.ErrNone
		}
		if got, e := cell.Orphan(rule); e != wantError || text(got) != want {
			t.Errorf("rule %d: %s, error %d; want %s, error %d", rule, text(got), e, want, wantError)
		}
	}
}

// merges tells whether two rings of up to longest cells become equal in one step.
func merges(rule, longest int) bool {
	for n := 1; n <= longest; n++ {
		became := make(map[string]bool)
		for _, ring := range words(n) {
			next, _ := cell.Step(rule, cells(ring))
			if became[text(next)] {
				return true
			}
			became[text(next)] = true
		}
	}
	return false
}

// TestSingleAgreesWithRings: if different rows become equal, then periodic ones do, and for these rules short periods suffice.
func TestSingleAgreesWithRings(t *testing.T) {
	for rule := range 256 {
		if is, e := cell.Single(rule); e != api.OK || is == merges(rule, 8) {
			t.Errorf("rule %d: %v, error %d; rings of up to 8 cells say otherwise", rule, is, e)
		}
	}
}

// TestBalance: by the rules onto which every word comes, all words have the same number of predecessors.
func TestBalance(t *testing.T) {
	for _, rule := range onto() {
		for _, word := range words(8) {
			if got, e := cell.Many(rule, cells(word)); e != api.OK || got != 4 {
				t.Fatalf("rule %d, %s: %d, error %d; want 4", rule, word, got, e)
			}
		}
	}
}

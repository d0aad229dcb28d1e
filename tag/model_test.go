package tag_test

import (
	"slices"
	"strconv"
	"strings"
	"testing"

	"tapeworks/api"
	"tapeworks/tag"
)

// numbers makes a fixed sequence of numbers that looks arbitrary.
type numbers uint64

// below returns the next number that is at least 0 and less than n.
func (s *numbers) below(n int) int {
	*s = *s*6364136223846793005 + 1442695040888963407
	return int(*s>>33) % n
}

func (s *numbers) word(signs, length int) []int {
	word := make([]int, length)
	for i := range word {
		word[i] = s.below(signs)
	}
	return word
}

// system makes a system whose lists are about as long as what is removed, so that words neither end nor grow at once.
func (s *numbers) system(signs int) api.Tag {
	t := api.Tag{Drop: 1 + s.below(api.MaxSigns)}
	for range signs {
		t.Bring = append(t.Bring, s.word(signs, min(s.below(2*t.Drop+2), api.MaxInput)))
	}
	return t
}

// digits writes a word as a text, one digit for each symbol.
func digits(word []int) string {
	var text strings.Builder
	for _, symbol := range word {
		text.WriteString(strconv.Itoa(symbol))
	}
	return text.String()
}

// history lists, as texts, the initial word and the word after each transition, up to the first one that is final or too long.
func history(t api.Tag, word []int, turns int) []string {
	list := []string{digits(word)}
	for range turns {
		now := list[len(list)-1]
		if len(now) < t.Drop || len(now) > api.MaxTag {
			break
		}
		list = append(list, now[t.Drop:]+digits(t.Bring[now[0]-'0']))
	}
	return list
}

// round looks a history through for the first repetition.
func round(t api.Tag, past []string) (int, int, api.Errno) {
	for n, word := range past {
		if before := slices.Index(past, word); before < n {
			return n, n - before, api.OK
		}
	}
	if len(past[len(past)-1]) < t.Drop {
		return 0, 0, api.ErrNone
	}
	return 0, 0, api.ErrLong
}

func TestAgreesWithModel(t *testing.T) {
	s := numbers(1)
	rounds := make(map[api.Errno]int)
	for range 4000 {
		signs := 1 + s.below(api.MaxSigns)
		g, word, turns := s.system(signs), s.word(signs, s.below(api.MaxTag+1)), s.below(api.MaxTurns+1)
		past := history(g, word, turns)
		want, wantDone, wantError := past[len(past)-1], len(past)-1, api.OK
		if len(want) > api.MaxTag {
			want, wantDone, wantError = "", 0, api.ErrLong
		}
		got, done, e := tag.Run(signs, g, word, turns)
		if e != wantError || done != wantDone || digits(got) != want {
			t.Fatalf("%v, %v, %d transitions: %v, %d, error %d; want %s, %d, error %d", g, word, turns, got, done, e, want, wantDone, wantError)
		}
		wantN, wantPeriod, wantError := round(g, history(g, word, api.MaxTurns))
		n, period, e := tag.Round(signs, g, word)
		if e != wantError || n != wantN || period != wantPeriod {
			t.Fatalf("%v, %v: round %d, %d, error %d; want %d, %d, error %d", g, word, n, period, e, wantN, wantPeriod, wantError)
		}
		rounds[e]++
	}
	for _, e := range []api.Errno{api.OK, api.ErrNone, api.ErrLong} {
		if rounds[e] < 100 {
			t.Errorf("error %d came %d times only", e, rounds[e])
		}
	}
}

// TestRoundIsARepetition holds Round against Run: the words before n all differ, and the one after n is the one a period earlier.
func TestRoundIsARepetition(t *testing.T) {
	s := numbers(2)
	found := 0
	for range 2000 {
		signs := 1 + s.below(api.MaxSigns)
		g, word := s.system(signs), s.word(signs, s.below(20))
		n, period, e := tag.Round(signs, g, word)
		if e != api.OK {
			continue
		}
		found++
		var past [][]int
		for turns := range n + 1 {
			now, _, _ := tag.Run(signs, g, word, turns)
			past = append(past, now)
		}
		for i, now := range past {
			before := slices.IndexFunc(past, func(other []int) bool { return slices.Equal(now, other) })
			if i < n && before != i || i == n && before != n-period {
				t.Fatalf("%v, %v: round %d, %d, but word %d is word %d", g, word, n, period, i, before)
			}
		}
	}
	if found < 100 {
		t.Errorf("only %d rounds", found)
	}
}

package comb_test

import (
	"slices"
	"strings"
	"testing"

	"tapeworks/api"
	"tapeworks/comb"
)

// The model works on texts in Polish notation, with one sign a node: "`" before both parts of an application, S, K, and for a variable the rune firstVariable plus its number. The order of the signs is the order from the left, with outer nodes before inner ones.
const firstVariable = 0x400

// numbers makes a fixed sequence of numbers that looks arbitrary.
type numbers uint64

// below returns the next number that is at least 0 and less than n.
func (s *numbers) below(n int) int {
	*s = *s*6364136223846793005 + 1442695040888963407
	return int(*s>>33) % n
}

// list makes a list of nodes, of which the later ones are mostly applications of nodes shortly before them; variables are below vars.
func (s *numbers) list(length, vars int) []api.Comb {
	leaves := 2 + s.below(4)
	var l []api.Comb
	for i := range length {
		if i < leaves || s.below(12) == 0 {
			l = append(l, s.leaf(vars))
			continue
		}
		near := min(i, 1+s.below(6))
		l = append(l, api.Comb{Kind: api.KPut, A: i - 1 - s.below(near), B: s.below(i), Var: s.below(99) - 50})
	}
	return l
}

// leaf makes a node that is no application, with arbitrary numbers in the fields that it does not use.
func (s *numbers) leaf(vars int) api.Comb {
	node := api.Comb{Kind: api.KS + s.below(3), A: s.below(99) - 50, B: s.below(99) - 50, Var: s.below(99) - 50}
	if node.Kind == api.KVar {
		node.Var = s.below(vars)
	}
	return node
}

// polish writes the tree of a valid list, or nothing if it has too many nodes.
func polish(l []api.Comb) string {
	texts := make([]string, len(l))
	for i, node := range l {
		switch node.Kind {
		case api.KS:
			texts[i] = "S"
		case api.KK:
			texts[i] = "K"
		case api.KVar:
			texts[i] = string(rune(firstVariable + node.Var))
		case api.KPut:
			if a, b := texts[node.A], texts[node.B]; a != "" && b != "" {
				texts[i] = "`" + a + b
			}
		}
		if size(texts[i]) > api.MaxNodes {
			texts[i] = ""
		}
	}
	return texts[len(l)-1]
}

func size(text string) int {
	return len([]rune(text))
}

// nodes reads a text from its end, so that parts are known before the applications of them, and lists the tree in postorder.
func nodes(text string) []api.Comb {
	var parts [][]api.Comb
	for _, sign := range slices.Backward([]rune(text)) {
		switch sign {
		case 'S':
			parts = append(parts, []api.Comb{{Kind: api.KS}})
		case 'K':
			parts = append(parts, []api.Comb{{Kind: api.KK}})
		case '`':
			first, second := parts[len(parts)-1], slices.Clone(parts[len(parts)-2])
			for i := range second {
				if second[i].Kind == api.KPut {
					second[i].A += len(first)
					second[i].B += len(first)
				}
			}
			whole := slices.Concat(first, second)
			whole = append(whole, api.Comb{Kind: api.KPut, A: len(first) - 1, B: len(whole) - 1})
			parts = append(parts[:len(parts)-2], whole)
		default:
			parts = append(parts, []api.Comb{{Kind: api.KVar, Var: int(sign) - firstVariable}})
		}
	}
	return parts[0]
}

// cut splits a text behind its first term.
func cut(text string) (string, string) {
	open := 1
	for i, sign := range text {
		if open == 0 {
			return text[:i], text[i:]
		}
		if sign == '`' {
			open++
		} else {
			open--
		}
	}
	return text, ""
}

// step replaces the first redex of a text.
func step(text string) (string, bool) {
	for i := range text {
		if rest, is := strings.CutPrefix(text[i:], "``K"); is {
			x, rest := cut(rest)
			_, rest = cut(rest)
			return text[:i] + x + rest, true
		}
		if rest, is := strings.CutPrefix(text[i:], "```S"); is {
			x, rest := cut(rest)
			y, rest := cut(rest)
			z, rest := cut(rest)
			return text[:i] + "``" + x + z + "`" + y + z + rest, true
		}
	}
	return text, false
}

// norm takes so many steps, as long as there are redexes and the text is not too long.
func norm(text string, steps int) (string, int, api.Errno) {
	for done := range steps {
		next, found := step(text)
		if !found {
			return text, done, api.OK
		}
		if size(next) > api.MaxNodes {
			return "", 0, api.ErrLong
		}
		text = next
	}
	return text, steps, api.OK
}

// out abstracts a variable from a text.
func out(text string, variable rune) string {
	if text == string(variable) {
		return "``SKK"
	}
	if !strings.ContainsRune(text, variable) {
		return "`K" + text
	}
	first, second := cut(text[1:])
	return "``S" + out(first, variable) + out(second, variable)
}

// want makes a text and an error into what a function returns.
func want(text string, e api.Errno) ([]api.Comb, api.Errno) {
	if e != api.OK {
		return nil, e
	}
	if size(text) > api.MaxNodes {
		return nil, api.ErrLong
	}
	return nodes(text), api.OK
}

// agree holds all functions against the model, for one list.
func agree(t *testing.T, l []api.Comb, v, steps int) (stepError, normError, outError api.Errno) {
	t.Helper()
	text := polish(l)
	next, found := step(text)
	stepError = api.OK
	if !found {
		stepError = api.ErrNone
	}
	list, stepError := want(next, stepError)
	if got, e := comb.Step(l); e != stepError || !slices.Equal(got, list) {
		t.Fatalf("%v: Step: %v, error %d; want %v, error %d", l, got, e, list, stepError)
	}
	final, wantDone, normError := norm(text, steps)
	list, normError = want(final, normError)
	if got, done, e := comb.Norm(l, steps); e != normError || done != wantDone || !slices.Equal(got, list) {
		t.Fatalf("%v: Norm with %d steps: %v, %d, error %d; want %v, %d, error %d", l, steps, got, done, e, list, wantDone, normError)
	}
	list, outError = want(out(text, rune(firstVariable+v)), api.OK)
	if got, e := comb.Out(l, v); e != outError || !slices.Equal(got, list) {
		t.Fatalf("%v: Out of %d: %v, error %d; want %v, error %d", l, v, got, e, list, outError)
	}
	return stepError, normError, outError
}

func TestAgreesWithModel(t *testing.T) {
	s := numbers(1)
	var large int
	var seen [3]map[api.Errno]int
	for i := range seen {
		seen[i] = make(map[api.Errno]int)
	}
	for range 30000 {
		l := s.list(1+s.below(api.MaxCombs), 3)
		if polish(l) == "" {
			large++
			if e := comb.Check(l); e != api.ErrLarge {
				t.Fatalf("%v: error %d", l, e)
			}
			continue
		}
		if e := comb.Check(l); e != api.OK {
			t.Fatalf("%v: error %d", l, e)
		}
		stepError, normError, outError := agree(t, l, s.below(4), s.below(api.MaxSteps+1))
		seen[0][stepError]++
		seen[1][normError]++
		seen[2][outError]++
	}
	for i, errors := range [3][]api.Errno{{api.OK, api.ErrNone, api.ErrLong}, {api.OK, api.ErrLong}, {api.OK, api.ErrLong}} {
		for _, e := range errors {
			if seen[i][e] < 50 {
				t.Errorf("function %d: error %d came %d times only", i, e, seen[i][e])
			}
		}
	}
	if large < 100 {
		t.Errorf("only %d terms are too large", large)
	}
}

// shapes lists all terms of so many leaves, as texts.
func shapes(leaves int) []string {
	if leaves == 1 {
		return []string{"S", "K", string(rune(firstVariable))}
	}
	var list []string
	for before := 1; before < leaves; before++ {
		for _, first := range shapes(before) {
			for _, second := range shapes(leaves - before) {
				list = append(list, "`"+first+second)
			}
		}
	}
	return list
}

// TestEverySmallTerm goes through all terms of S, K and a variable with few leaves.
func TestEverySmallTerm(t *testing.T) {
	for leaves := 1; leaves <= 6; leaves++ {
		for i, text := range shapes(leaves) {
			agree(t, nodes(text), i%2, i%10)
		}
	}
}

// TestOutUndone: what is abstracted from a term, applied to another one, comes back with that one in the place of the variable.
func TestOutUndone(t *testing.T) {
	const x = string(rune(firstVariable))
	undone := 0
	for leaves := 1; leaves <= 5; leaves++ {
		for _, text := range shapes(leaves) {
			if _, found := step(text); found {
				continue
			}
			abstracted, _ := comb.Out(nodes(text), 0)
			if strings.Contains(polish(abstracted), x) {
				t.Fatalf("%s: the variable occurs in %s", text, polish(abstracted))
			}
			for _, argument := range []string{string(rune(firstVariable + 7)), "`SK", "`" + x + x} {
				l := nodes("`" + polish(abstracted) + argument)
				if len(l) > api.MaxCombs {
					continue
				}
				// What is put in can make redexes, so both are followed to their ends.
				replaced := strings.ReplaceAll(text, x, argument)
				end, _, e := norm(replaced, api.MaxSteps)
				got, _, f := comb.Norm(l, api.MaxSteps)
				if e != api.OK || f != api.OK || polish(got) != end {
					t.Fatalf("%s: %s, applied to %s, becomes %s, error %d; want %s, error %d", text, polish(abstracted), argument, polish(got), f, end, e)
				}
				undone++
			}
		}
	}
	if undone < 500 {
		t.Errorf("only %d terms came back", undone)
	}
}

package comb_test

import (
	"math"
	"slices"
	"strings"
	"testing"

	"tapeworks/api"
	"tapeworks/comb"
)

// tree lists the tree in postorder of a term in the usual notation: application associates to the left, and the variables are a, b and so on, from 0.
func tree(text string) []api.Comb {
	l, _ := appendTree(nil, text)
	return l
}

// appendTree appends the tree of what stands in a text before its end or a closing parenthesis, and returns the text behind that.
func appendTree(l []api.Comb, text string) ([]api.Comb, string) {
	before := -1
	for text != "" {
		sign := text[0]
		text = text[1:]
		switch sign {
		case ')':
			return l, text
		case '(':
			l, text = appendTree(l, text)
		case 'S':
			l = append(l, api.Comb{Kind: api.KS})
		case 'K':
			l = append(l, api.Comb{Kind: api.KK})
		default:
			l = append(l, variable(int(sign-'a')))
		}
		if before >= 0 {
			l = append(l, put(before, len(l)-1))
		}
		before = len(l) - 1
	}
	return l, ""
}

// inPlace lists the nodes of a tree in the opposite order of its parts, so that no node is where it is in the result.
func inPlace(l []api.Comb) []api.Comb {
	var out []api.Comb
	var add func(i int) int
	add = func(i int) int {
		node := l[i]
		if node.Kind == api.KPut {
			node.B = add(node.B)
			node.A = add(node.A)
		}
		out = append(out, node)
		return len(out) - 1
	}
	add(len(l) - 1)
	return out
}

func TestStep(t *testing.T) {
	cases := []struct{ name, term, want string }{
		{"K", "Kab", "a"},
		{"S", "Sabc", "ac(bc)"},
		{"K of parts", "K(ab)(cd)", "ab"},
		{"S of parts", "S(ab)(cd)(ef)", "ab(ef)(cd(ef))"},
		{"S of S and K", "SKKa", "Ka(Ka)"},
		{"K of itself", "KKK", "K"},
		{"S of itself", "SSSS", "SS(SS)"},
		{"K with more behind", "Kabcd", "acd"},
		{"S with more behind", "Sabcde", "ac(bc)de"},
		{"in the second part", "a(Kbc)", "ab"},
		{"in the second part of an S that lacks one", "Sa(Kbc)", "Sab"},
		{"in the first part of a K that lacks one", "K(Kab)", "Ka"},
		{"the left one of two", "a(Kbc)(Kde)", "ab(Kde)"},
		{"the left one of two, deeper down", "a(b(c(Kde)))(Kfg)", "a(b(cd))(Kfg)"},
		{"the outer one of two", "K(Kab)c", "Kab"},
		{"the outer one, though it drops the other", "Ka(Kbc)", "a"},
		{"the outer one, though it doubles the other", "Sab(Kcd)", "a(Kcd)(b(Kcd))"},
		{"the outer one, with another in its first argument", "S(Kab)cd", "Kabd(cd)"},
		{"the left one, though the right one is higher up", "a(b(Kcd))(Sefg)", "a(bc)(Sefg)"},
		{"the left one at the head", "Kab(Kcd)", "a(Kcd)"},
		{"a redex of the head is not one of the whole", "Sabc(Kde)", "ac(bc)(Kde)"},
		{"the head of a redex comes first", "K(Sabc)d(Kef)", "Sabc(Kef)"},
		{"the head is not where K begins", "aKbc(Kde)", "aKbcd"},
		{"K as the second argument of K", "KaK", "a"},
		{"arguments that are S and K", "SKSK", "KK(SK)"},
	}
	for _, c := range cases {
		for _, l := range [][]api.Comb{tree(c.term), inPlace(tree(c.term))} {
			if got, e := comb.Step(l); e != api.OK || !slices.Equal(got, tree(c.want)) {
				t.Errorf("%s: %s: %v, error %d; want %v", c.name, c.term, got, e, tree(c.want))
			}
			if got, done, e := comb.Norm(l, 1); e != api.OK || done != 1 || !slices.Equal(got, tree(c.want)) {
				t.Errorf("%s: %s: Norm: %v, %d, error %d; want %v", c.name, c.term, got, done, e, tree(c.want))
			}
		}
	}
}

func TestNoRedex(t *testing.T) {
	for _, text := range []string{"a", "S", "K", "SS", "KK", "Ka", "Sa", "Sab", "SKK", "S(SS)(KK)", "aKbc", "aSbcd", "a(K)(S)", "K(Sab)", "S(Ka)(Sbc)", "SS(SS)", "a(SK)(SK)", "abcdefgh"} {
		l := tree(text)
		if got, e := comb.Step(inPlace(l)); e != api.ErrNone || len(got) != 0 {
			t.Errorf("%s: %v, error %d", text, got, e)
		}
		for _, steps := range []int{0, 1, api.MaxSteps} {
			if got, done, e := comb.Norm(inPlace(l), steps); e != api.OK || done != 0 || !slices.Equal(got, l) {
				t.Errorf("%s: Norm: %v, %d, error %d", text, got, done, e)
			}
		}
	}
}

func TestNorm(t *testing.T) {
	constants, identities := strings.Repeat("(Kbc)", 34), strings.Repeat("(SKKa)", 30)
	const endless = "S(SKK)(SKK)(S(SKK)(SKK))"
	cases := []struct {
		name, term string
		steps      int
		want       string
		done       int
	}{
		{"no step", "Kab", 0, "Kab", 0},
		{"the only step", "Kab", 1, "a", 1},
		{"fewer steps than there may be", "Kab", 2, "a", 1},
		{"one step of two", "SKKa", 1, "Ka(Ka)", 1},
		{"identity", "SKKa", api.MaxSteps, "a", 2},
		{"the outer one drops the others", "K(Kab)(Kcd)", 1, "Kab", 1},
		{"the outer one, then the one left", "K(Kab)(Kcd)", 9, "a", 2},
		{"from the left, not all", "a(Kbc)(Kde)(Kfg)", 2, "abd(Kfg)", 2},
		{"from the left, all", "a(Kbc)(Kde)(Kfg)", 3, "abdf", 3},
		{"an argument doubled, reduced twice", "S(S(KS)K)Kabcd", api.MaxSteps, "aacd", 6},
		{"composition", "S(KS)Kabc", api.MaxSteps, "a(bc)", 4},
		{"exchange", "S(S(K(S(KS)K))S)(KK)abc", api.MaxSteps, "acb", 10},
		{"at the head", "SKSabc", 1, "Ka(Sa)bc", 1},
		{"an endless argument is dropped", "Ka(" + endless + ")", api.MaxSteps, "a", 1},
		{"endless, first step", endless, 1, "SKK(S(SKK)(SKK))(SKK(S(SKK)(SKK)))", 1},
		{"endless, back at the head", endless, 3, "S(SKK)(SKK)(SKK(S(SKK)(SKK)))", 3},
		{"a step less than there can be", identities, 59, strings.Repeat("a", 29) + "(Ka(Ka))", 59},
		{"just enough steps", identities, 60, strings.Repeat("a", 30), 60},
		{"not enough steps", identities + "(SKKa)", 60, strings.Repeat("a", 30) + "(SKKa)", 60},
		{"many steps at the same height", "a" + constants, 60, "a" + strings.Repeat("b", 34), 34},
		{"some of many steps", "a" + constants, 20, "a" + strings.Repeat("b", 20) + constants[20*len("(Kbc)"):], 20},
	}
	for _, c := range cases {
		l := shared(tree(c.term))
		if got, done, e := comb.Norm(l, c.steps); e != api.OK || done != c.done || !slices.Equal(got, tree(c.want)) {
			t.Errorf("%s: %s: %v, %d, error %d; want %v, %d", c.name, c.term, got, done, e, tree(c.want), c.done)
		}
	}
}

// shared lists each node of a tree only once, however often it is used.
func shared(l []api.Comb) []api.Comb {
	var out []api.Comb
	places := make([]int, len(l))
	for i, node := range l {
		if node.Kind == api.KPut {
			node.A, node.B = places[node.A], places[node.B]
		}
		places[i] = slices.Index(out, node)
		if places[i] < 0 {
			places[i] = len(out)
			out = append(out, node)
		}
	}
	return out
}

// many writes a term of so many variables a, in parentheses and with parts that are alike.
func many(leaves int) string {
	if leaves == 1 {
		return "a"
	}
	return "(" + many(leaves/2) + many(leaves-leaves/2) + ")"
}

func TestStepLong(t *testing.T) {
	// S x y z becomes as large as x and y, twice z, and three.
	z := many(74)
	cases := []struct {
		name, term string
		want       int
		err        api.Errno
	}{
		{"as large as can be", "Sbc" + z, 299, api.OK},
		{"too large", "Sb(cd)" + z, 0, api.ErrLong},
		{"too large by the first argument", "S(bc)d" + z, 0, api.ErrLong},
		{"too large with what is in front", "e(Sbc" + z + ")", 0, api.ErrLong},
		{"too large with what is behind", "Sbc" + z + "e", 0, api.ErrLong},
		{"much too large", "Sbc" + many(145), 0, api.ErrLong},
		{"too large though the next step makes it small", "SK(cd)" + z, 0, api.ErrLong},
		{"the largest term becomes small", "Kb" + many(147), 1, api.OK},
		{"the largest term becomes smaller by little", "K" + many(148) + "b", 295, api.OK},
		{"the largest term without a redex", many(150), 0, api.ErrNone},
	}
	for _, c := range cases {
		got, e := comb.Step(shared(tree(c.term)))
		if e != c.err || len(got) != c.want {
			t.Errorf("%s: %d nodes, error %d; want %d, error %d", c.name, len(got), e, c.want, c.err)
		}
	}
}

func TestNormLong(t *testing.T) {
	z := many(74)
	cases := []struct {
		name, term        string
		steps, want, done int
		err               api.Errno
	}{
		{"no step", "SK(cd)" + z, 0, 155, 0, api.OK},
		{"too large at once", "SK(cd)" + z, 1, 0, 0, api.ErrLong},
		{"too large before it becomes small", "SK(cd)" + z, 2, 0, 0, api.ErrLong},
		{"as large as can be before it becomes small", "SKc" + z, 2, 147, 2, api.OK},
		{"as large as can be", "SKc" + z, 1, 299, 1, api.OK},
		{"a step before it is too large", "K(Sb(cd))e" + z, 1, 155, 1, api.OK},
		{"too large in a later step", "K(Sb(cd))e" + z, 2, 0, 0, api.ErrLong},
		{"too large in a later step than is done", "Kb(Sb(cd)" + z + ")", api.MaxSteps, 1, 1, api.OK},
		{"the largest term without a redex", many(150), api.MaxSteps, 299, 0, api.OK},
		{"doubled without an end", "S(SKK)(SKK)(S(S(SKK)(SKK))(S(SKK)(SKK)))", api.MaxSteps, 0, 0, api.ErrLong},
	}
	for _, c := range cases {
		got, done, e := comb.Norm(shared(tree(c.term)), c.steps)
		if e != c.err || done != c.done || len(got) != c.want {
			t.Errorf("%s: %d nodes, %d steps, error %d; want %d, %d, error %d", c.name, len(got), done, e, c.want, c.done, c.err)
		}
	}
}

func TestNormSteps(t *testing.T) {
	for _, text := range []string{"a", "Kab", "SK(cd)" + many(74)} {
		l := shared(tree(text))
		for _, steps := range []int{math.MinInt, -1, api.MaxSteps + 1, math.MaxInt} {
			if got, done, e := comb.Norm(l, steps); e != api.ErrRange || len(got) != 0 || done != 0 {
				t.Errorf("%s, %d steps: %v, %d, error %d", text, steps, got, done, e)
			}
		}
	}
}

func TestOut(t *testing.T) {
	cases := []struct {
		name, term string
		v          int
		want       string
	}{
		{"the variable itself", "a", 0, "SKK"},
		{"the variable itself, another one", "b", 1, "SKK"},
		{"another variable", "b", 0, "Kb"},
		{"another variable, the greatest", "b", api.MaxSmall, "Kb"},
		{"S", "S", 0, "KS"},
		{"K", "K", 0, "KK"},
		{"an application without the variable", "bc", 0, "K(bc)"},
		{"a redex without the variable", "Kbc", 0, "K(Kbc)"},
		{"in the first part", "ab", 0, "S(SKK)(Kb)"},
		{"in the second part", "ba", 0, "S(Kb)(SKK)"},
		{"in both parts", "aa", 0, "S(SKK)(SKK)"},
		{"applied to more", "abc", 0, "S(S(SKK)(Kb))(Kc)"},
		{"applied to an application", "a(bc)", 0, "S(SKK)(K(bc))"},
		{"behind an application without it", "bca", 0, "S(K(bc))(SKK)"},
		{"deep in the second part", "b(c(da))", 0, "S(Kb)(S(Kc)(S(Kd)(SKK)))"},
		{"a redex with the variable", "Kab", 0, "S(S(KK)(SKK))(Kb)"},
		{"the second of two variables", "ab", 1, "S(Ka)(SKK)"},
		{"none of two variables", "ab", 2, "K(ab)"},
	}
	for _, c := range cases {
		for _, l := range [][]api.Comb{tree(c.term), inPlace(tree(c.term)), shared(tree(c.term))} {
			if got, e := comb.Out(l, c.v); e != api.OK || !slices.Equal(got, tree(c.want)) {
				t.Errorf("%s: %s: %v, error %d; want %v", c.name, c.term, got, e, tree(c.want))
			}
		}
	}
	if got, e := comb.Out([]api.Comb{variable(api.MaxSmall)}, api.MaxSmall); e != api.OK || !slices.Equal(got, tree("SKK")) {
		t.Errorf("the greatest variable itself: %v, error %d", got, e)
	}
	if got, e := comb.Out([]api.Comb{{Kind: api.KS, Var: 5}}, 5); e != api.OK || !slices.Equal(got, tree("KS")) {
		t.Errorf("S with a number that is not used: %v, error %d", got, e)
	}
	if got, e := comb.Out([]api.Comb{variable(0), variable(1)}, 0); e != api.OK || !slices.Equal(got, tree("Kb")) {
		t.Errorf("a variable that is not used: %v, error %d", got, e)
	}
}

func TestOutErrors(t *testing.T) {
	for _, text := range []string{"a", "bc", many(150)} {
		for _, v := range []int{math.MinInt, -1, api.MaxSmall + 1, math.MaxInt} {
			if got, e := comb.Out(shared(tree(text)), v); e != api.ErrRange || len(got) != 0 {
				t.Errorf("%s, variable %d: %v, error %d", text, v, got, e)
			}
		}
	}
	// Each place of the variable takes eight nodes, but the first one takes five.
	cases := []struct {
		name, term string
		v, want    int
		err        api.Errno
	}{
		{"places of the variable", many(37), 0, 293, api.OK},
		{"as large as can be", many(37) + "b", 0, 299, api.OK},
		{"too large by what is applied", many(37) + "(bc)", 0, 0, api.ErrLong},
		{"a place too many", many(38), 0, 0, api.ErrLong},
		{"far too many places", many(150), 0, 0, api.ErrLong},
		{"as large as can be, without the variable", many(149), 1, 299, api.OK},
		{"too large without the variable", many(150), 1, 0, api.ErrLong},
	}
	for _, c := range cases {
		if got, e := comb.Out(shared(tree(c.term)), c.v); e != c.err || len(got) != c.want {
			t.Errorf("%s: %d nodes, error %d; want %d, error %d", c.name, len(got), e, c.want, c.err)
		}
	}
}

func TestArgumentsStayAsTheyAre(t *testing.T) {
	for _, text := range []string{"a", "Kab", "Sab(ca)", "K(Kab)c", "a(Kbc)"} {
		l := tree(text)
		for i := range l {
			if l[i].Kind == api.KPut {
				l[i].Var = -9
			} else {
				l[i].A, l[i].B = 70, -7
			}
		}
		room := append(slices.Clone(l), api.Comb{Kind: 9}, variable(-1), put(-1, -1))
		before := slices.Clone(room)
		l = room[:len(l)]
		comb.Check(l)
		stepped, _ := comb.Step(l)
		normal, _, _ := comb.Norm(l, 0)
		abstracted, _ := comb.Out(l, 0)
		for _, result := range [][]api.Comb{stepped, normal, abstracted} {
			clear(result)
		}
		if !slices.Equal(room, before) {
			t.Errorf("%s: the nodes became %v", text, room)
		}
		if again, _, e := comb.Norm(l, 0); e != api.OK || !slices.Equal(again, tree(text)) {
			t.Errorf("%s: then %v, error %d", text, again, e)
		}
	}
}

package circuit_test

import (
	"slices"
	"testing"

	"tapeworks/api"
	"tapeworks/circuit"
)

var (
	first  = api.Gate{Kind: api.GIn, A: 0}
	second = api.Gate{Kind: api.GIn, A: 1}
)

func not(a int) api.Gate    { return api.Gate{Kind: api.GNot, A: a} }
func and(a, b int) api.Gate { return api.Gate{Kind: api.GAnd, A: a, B: b} }
func or(a, b int) api.Gate  { return api.Gate{Kind: api.GOr, A: a, B: b} }

func TestCircuits(t *testing.T) {
	cases := []struct {
		name  string
		build func(b *circuit.Builder) int
		want  []api.Gate
	}{
		{"an input", func(b *circuit.Builder) int { return b.Input(1) }, []api.Gate{second}},
		{"a negation", func(b *circuit.Builder) int { return b.Not(b.Input(0)) }, []api.Gate{first, not(0)}},
		{"a conjunction", func(b *circuit.Builder) int { return b.And(b.Input(1), b.Input(0)) }, []api.Gate{second, first, and(0, 1)}},
		{"a disjunction", func(b *circuit.Builder) int { return b.Or(b.Input(0), b.Input(1)) }, []api.Gate{first, second, or(0, 1)}},
		{"never", func(b *circuit.Builder) int { return circuit.Never }, []api.Gate{first, not(0), and(0, 1)}},
		{"always", func(b *circuit.Builder) int { return circuit.Always }, []api.Gate{first, not(0), or(0, 1)}},
		{
			"equal gates are added once",
			func(b *circuit.Builder) int { return b.Or(b.Not(b.Input(0)), b.And(b.Input(0), b.Not(b.Input(0)))) },
			[]api.Gate{first, not(0), and(0, 1), or(1, 2)},
		},
		{
			"gates that are not needed are left out",
			func(b *circuit.Builder) int {
				b.Not(b.Input(0))
				needed := b.Or(b.Input(1), b.Input(0))
				b.And(needed, b.Not(needed))
				return b.Not(needed)
			},
			[]api.Gate{first, second, or(1, 0), not(2)},
		},
		{
			"a gate among others",
			func(b *circuit.Builder) int {
				one := b.Input(0)
				b.Not(b.And(one, b.Input(1)))
				return one
			},
			[]api.Gate{first},
		},
		{
			"a constant behind gates that are not needed",
			func(b *circuit.Builder) int {
				b.Or(b.Input(1), b.Input(0))
				return circuit.Never
			},
			[]api.Gate{first, not(0), and(0, 1)},
		},
	}
	for _, c := range cases {
		var b circuit.Builder
		if got := b.Circuit(c.build(&b)); !slices.Equal(got, c.want) {
			t.Errorf("%s: %v, want %v", c.name, got, c.want)
		}
	}
}

// TestConstants: constants add no gates.
func TestConstants(t *testing.T) {
	const never, always = circuit.Never, circuit.Always
	var b circuit.Builder
	one := b.Input(0)
	cases := []struct {
		name      string
		got, want int
	}{
		{"not never", b.Not(never), always},
		{"not always", b.Not(always), never},
		{"never and never", b.And(never, never), never},
		{"never and always", b.And(never, always), never},
		{"always and never", b.And(always, never), never},
		{"always and always", b.And(always, always), always},
		{"never and a gate", b.And(never, one), never},
		{"a gate and never", b.And(one, never), never},
		{"always and a gate", b.And(always, one), one},
		{"a gate and always", b.And(one, always), one},
		{"never or never", b.Or(never, never), never},
		{"never or always", b.Or(never, always), always},
		{"always or never", b.Or(always, never), always},
		{"always or always", b.Or(always, always), always},
		{"never or a gate", b.Or(never, one), one},
		{"a gate or never", b.Or(one, never), one},
		{"always or a gate", b.Or(always, one), always},
		{"a gate or always", b.Or(one, always), always},
	}
	for _, c := range cases {
		if c.got != c.want {
			t.Errorf("%s: %d, want %d", c.name, c.got, c.want)
		}
	}
	if next := b.Input(1); next != one+1 {
		t.Errorf("the next gate has the number %d", next)
	}
}

// TestCircuitIsNew: what becomes of a circuit does not matter to the next one.
func TestCircuitIsNew(t *testing.T) {
	var b circuit.Builder
	number := b.Not(b.Input(0))
	clear(b.Circuit(number))
	if got, want := b.Circuit(number), []api.Gate{first, not(0)}; !slices.Equal(got, want) {
		t.Errorf("%v, want %v", got, want)
	}
}

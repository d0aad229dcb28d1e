package gate

import "tapeworks/api"

// builder collects the gates of a circuit. Gates that it knows are not added again, so that equal parts of a circuit are shared.
type builder struct {
	gates []api.Gate
	known map[api.Gate]int
}

func newBuilder() *builder {
	return &builder{known: map[api.Gate]int{}}
}

// add returns the number of a gate, which may be a known one.
func (b *builder) add(g api.Gate) int {
	number, found := b.known[g]
	if !found {
		number = len(b.gates)
		b.known[g] = number
		b.gates = append(b.gates, g)
	}
	return number
}

func (b *builder) input(number int) int {
	return b.add(api.Gate{Kind: api.GIn, A: number})
}

func (b *builder) not(a int) int {
	return b.add(api.Gate{Kind: api.GNot, A: a})
}

func (b *builder) and(one, other int) int {
	return b.add(api.Gate{Kind: api.GAnd, A: one, B: other})
}

func (b *builder) or(one, other int) int {
	return b.add(api.Gate{Kind: api.GOr, A: one, B: other})
}

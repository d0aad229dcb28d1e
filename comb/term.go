package comb

import "tapeworks/api"

// term is the last node of a term. It is never changed, so terms can share their parts.
type term struct {
	kind, variable int
	first, second  *term
	size           int
}

// leaf returns a term of one node.
func leaf(kind, variable int) *term {
	return &term{kind: kind, variable: variable, size: 1}
}

// put returns the application of one term to another. Sizes end at the first one that is too great, because shared nodes can double them beyond all bounds.
func put(first, second *term) *term {
	size := min(first.size+second.size+1, api.MaxNodes+1)
	return &term{kind: api.KPut, first: first, second: second, size: size}
}

// isLong tells whether the tree of a term has too many nodes.
func (t *term) isLong() bool {
	return t.size > api.MaxNodes
}

// parse validates a list of nodes and returns the term that it denotes.
func parse(l []api.Comb) (*term, api.Errno) {
	if len(l) == 0 || len(l) > api.MaxCombs {
		return nil, api.ErrLarge
	}
	terms := make([]*term, len(l))
	for i, node := range l {
		t, e := build(terms[:i], node)
		if e != api.OK {
			return nil, e
		}
		terms[i] = t
	}
	// Preceding nodes that the last one does not use may have trees of any size.
	last := terms[len(l)-1]
	if last.isLong() {
		return nil, api.ErrLarge
	}
	return last, api.OK
}

// build validates a node and returns its term, with those of the preceding nodes as parts.
func build(before []*term, node api.Comb) (*term, api.Errno) {
	precedes := func(number int) bool { return number >= 0 && number < len(before) }
	switch node.Kind {
	case api.KS, api.KK:
		return leaf(node.Kind, 0), api.OK
	case api.KVar:
		if !isVariable(node.Var) {
			return nil, api.ErrRange
		}
		return leaf(api.KVar, node.Var), api.OK
	case api.KPut:
		if !precedes(node.A) || !precedes(node.B) {
			return nil, api.ErrArg
		}
		return put(before[node.A], before[node.B]), api.OK
	}
	return nil, api.ErrKind
}

// write returns the nodes of a term, if its tree does not have too many.
func write(t *term) ([]api.Comb, api.Errno) {
	if t.isLong() {
		return nil, api.ErrLong
	}
	return t.list(), api.OK
}

// list returns the nodes of a term's tree in postorder.
func (t *term) list() []api.Comb {
	return t.appendTo(make([]api.Comb, 0, t.size))
}

// appendTo appends the nodes of a term's tree in postorder.
func (t *term) appendTo(l []api.Comb) []api.Comb {
	if t.kind != api.KPut {
		return append(l, api.Comb{Kind: t.kind, Var: t.variable})
	}
	l = t.first.appendTo(l)
	a := len(l) - 1
	l = t.second.appendTo(l)
	return append(l, api.Comb{Kind: api.KPut, A: a, B: len(l) - 1})
}

package comb

import "tapeworks/api"

// reduce returns the term after the contraction of its leftmost outermost redex, or false if there is no redex.
func reduce(t *term) (*term, bool) {
	if t.kind != api.KPut {
		return nil, false
	}
	if next, found := contract(t); found {
		return next, true
	}
	if first, found := reduce(t.first); found {
		return put(first, t.second), true
	}
	if second, found := reduce(t.second); found {
		return put(t.first, second), true
	}
	return nil, false
}

// contract returns what an application becomes if it is a redex itself.
func contract(t *term) (*term, bool) {
	if t.first.kind != api.KPut {
		return nil, false
	}
	head, middle, last := t.first.first, t.first.second, t.second
	if head.kind == api.KK {
		return middle, true
	}
	if head.kind == api.KPut && head.first.kind == api.KS {
		return put(put(head.second, last), put(middle, last)), true
	}
	return nil, false
}

// abstract returns the bracket abstraction of a variable from a term.
func abstract(t *term, v int) *term {
	s, k := leaf(api.KS, 0), leaf(api.KK, 0)
	if !t.has(v) {
		return put(k, t)
	}
	if t.kind == api.KVar {
		return put(put(s, k), k)
	}
	return put(put(s, abstract(t.first, v)), abstract(t.second, v))
}

// has tells whether a variable occurs in a term.
func (t *term) has(v int) bool {
	if t.kind == api.KPut {
		return t.first.has(v) || t.second.has(v)
	}
	return t.kind == api.KVar && t.variable == v
}

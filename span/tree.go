package span

import "catchword/api"

// node is a span of a tree of spans in form, and the trees of those ahead of it and of those behind it. The ranks of these are below its own.
type node struct {
	api.Span
	ahead, behind *node
}

// rank is a number that looks as if it were drawn, and that no other span of the tree has: the tree is shallow then in whatever order spans are put in.
func (n *node) rank() uint64 {
	x := uint64(n.From)
	x = (x ^ x>>33) * 0xff51afd7ed558ccd
	x = (x ^ x>>33) * 0xc4ceb9fe1a85ec53
	return x ^ x>>33
}

// between is the same span, between other trees.
func (n *node) between(ahead, behind *node) *node {
	return &node{Span: n.Span, ahead: ahead, behind: behind}
}

// each hands on all spans, rising.
func (n *node) each(do func(api.Span)) {
	if n != nil {
		n.ahead.each(do)
		do(n.Span)
		n.behind.each(do)
	}
}

// split parts the spans that stand first, of which it is told so, from the others.
func (n *node) split(first func(api.Span) bool) (*node, *node) {
	if n == nil {
		return nil, nil
	}
	if first(n.Span) {
		a, b := n.behind.split(first)
		return n.between(n.ahead, a), b
	}
	a, b := n.ahead.split(first)
	return a, n.between(b, n.behind)
}

// part parts the spans that meet x, or touch it, from those ahead and those behind.
func (n *node) part(x api.Span) (ahead, met, behind *node) {
	ahead, met = n.split(func(y api.Span) bool { return y.To < x.From })
	met, behind = met.split(func(y api.Span) bool { return y.From <= x.To })
	return ahead, met, behind
}

// merge makes one tree of two, of which one stands ahead of the other.
func merge(a, b *node) *node {
	switch {
	case a == nil:
		return b
	case b == nil:
		return a
	case a.rank() > b.rank():
		return a.between(a.ahead, merge(a.behind, b))
	}
	return b.between(merge(a, b.ahead), b.behind)
}

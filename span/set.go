package span

import "catchword/api"

// Set is numbers: a tree of its spans, in form. Of a tree nothing is changed any more once it is made, so that a Set that is assigned to another one has nothing in common with it.
type Set struct{ top *node }

// tree is the set's tree; a nil Set has that of the empty one.
func (s *Set) tree() *node {
	if s == nil {
		return nil
	}
	return s.top
}

// Put puts a span in.
func (s *Set) Put(x api.Span) {
	if s == nil || empty(x) {
		return
	}
	ahead, met, behind := s.top.part(x)
	met.each(func(y api.Span) {
		x.From = min(x.From, y.From)
		x.To = max(x.To, y.To)
	})
	s.top = merge(merge(ahead, &node{Span: x}), behind)
}

// Has asks whether all of one is in.
func (s *Set) Has(x api.Span) bool { return empty(x) || s.Upto(x.From) >= x.To }

// Upto is the first number that is not in.
func (s *Set) Upto(at int) int {
	_, met, _ := s.tree().part(api.Span{From: at, To: at})
	if met == nil {
		return at
	}
	// It is the only one, as spans in form do not touch one another.
	return met.To
}

// Missing is what is not in.
func (s *Set) Missing(x api.Span) []api.Span {
	if empty(x) {
		return nil
	}
	var out []api.Span
	at := x.From
	gap := func(to int) {
		if at < to {
			out = append(out, api.Span{From: at, To: to})
		}
	}
	_, met, _ := s.tree().part(x)
	met.each(func(y api.Span) {
		gap(y.From)
		at = y.To
	})
	gap(x.To)
	return out
}

// All are its spans.
func (s *Set) All() []api.Span {
	var out []api.Span
	s.tree().each(func(x api.Span) { out = append(out, x) })
	return out
}

// Size is how many numbers it has.
func (s *Set) Size() int {
	n := 0
	s.tree().each(func(x api.Span) { n += x.To - x.From })
	return n
}

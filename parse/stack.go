package parse

import (
	"catchword/api"
	"catchword/value"
)

// stack has the Arrays and Dicts that are open, the innermost last, each with what it has so far.
type stack []api.Value

// room is the error of a value of a kind that stands where the next one does.
func (s stack) room(kind int) api.Errno {
	n := len(s)
	if n > 0 && s[n-1].Kind == api.Dict && len(s[n-1].L)%2 == 0 && kind != api.Name {
		return api.ErrForm
	}
	if n >= api.MaxDeep {
		return api.ErrDeep
	}
	return api.OK
}

// push opens an Array, or a Dict.
func (s *stack) push(kind int) api.Errno {
	if e := s.room(kind); e != api.OK {
		return e
	}
	*s = append(*s, api.Value{Kind: kind})
	return api.OK
}

// add puts a value into the innermost one.
func (s stack) add(v api.Value) api.Errno {
	if e := s.room(v.Kind); e != api.OK {
		return e
	}
	in := &s[len(s)-1]
	in.L = append(in.L, v)
	return api.OK
}

// pop closes the innermost one, which must be of that kind.
func (s *stack) pop(kind int) (api.Value, api.Errno) {
	n := len(*s) - 1
	if n < 0 || (*s)[n].Kind != kind {
		return api.Value{}, api.ErrForm
	}
	v := (*s)[n]
	*s = (*s)[:n]
	if kind == api.Dict {
		return dict(v.L)
	}
	return v, api.OK
}

// dict is the Dict of names and values in turn.
func dict(l []api.Value) (api.Value, api.Errno) {
	if len(l)%2 != 0 {
		return api.Value{}, api.ErrForm
	}
	d := value.DictOf(l...)
	if len(d.L) < len(l) { // of a name that stands twice one is left
		return api.Value{}, api.ErrKey
	}
	return d, api.OK
}

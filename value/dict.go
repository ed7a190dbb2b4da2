package value

import (
	"slices"
	"strings"

	"catchword/api"
)

// Get is a name's value.
func Get(v api.Value, key string) (api.Value, bool) {
	at, ok := place(v, key)
	if !ok || at+1 == len(v.L) {
		return api.Value{}, ok
	}
	return v.L[at+1], true
}

// Put puts one in.
func Put(v api.Value, key string, x api.Value) api.Value {
	if v.Kind != api.Dict {
		return v
	}
	if at, ok := place(v, key); ok {
		v.L = slices.Concat(v.L[:at+1], []api.Value{x}, behind(v.L, at))
		return v
	}
	at := find(v.L, func(s string) bool { return s > key })
	v.L = slices.Concat(v.L[:at], []api.Value{NameOf(key), x}, v.L[at:])
	return v
}

// Drop takes one out.
func Drop(v api.Value, key string) api.Value {
	if at, ok := place(v, key); ok {
		v.L = slices.Concat(v.L[:at], behind(v.L, at))
	}
	return v
}

// DictOf is a dictionary.
func DictOf(l ...api.Value) api.Value {
	pairs := slices.Collect(slices.Chunk(l[:len(l)/2*2], 2))
	// Those of one name keep their order, so that the last of them is the one that was put last.
	slices.SortStableFunc(pairs, func(a, b []api.Value) int { return strings.Compare(a[0].S, b[0].S) })
	d := api.Value{Kind: api.Dict}
	for i, p := range pairs {
		if i+1 == len(pairs) || pairs[i+1][0].S != p[0].S {
			d.L = append(d.L, NameOf(p[0].S), p[1])
		}
	}
	return d
}

// find is where the first name stands, in a name's place, whose S is one that is meant: the list's end, if none is.
func find(l []api.Value, meant func(s string) bool) int {
	for at := 0; at < len(l); at += 2 {
		if l[at].Kind == api.Name && meant(l[at].S) {
			return at
		}
	}
	return len(l)
}

// place is where the first name stands in a dictionary whose S is key, and whether there is one.
func place(v api.Value, key string) (int, bool) {
	if v.Kind != api.Dict {
		return 0, false
	}
	at := find(v.L, func(s string) bool { return s == key })
	return at, at < len(v.L)
}

// behind is what stands behind a name and its value, which the last name may not have.
func behind(l []api.Value, at int) []api.Value { return l[min(at+2, len(l)):] }

// names is the error of a dictionary's names by themselves.
func names(l []api.Value) api.Errno {
	if len(l)%2 != 0 {
		return api.ErrArg
	}
	e := api.OK
	for at := 0; at < len(l); at += 2 {
		if l[at].Kind != api.Name {
			return api.ErrArg
		}
		if at > 0 && l[at-2].S >= l[at].S {
			e = api.ErrKey
		}
	}
	return e
}

package show_test

import (
	"math/rand/v2"
	"reflect"
	"strings"
	"testing"

	"catchword/api"
	"catchword/show"
)

// roomy is a value anew, each of whose lists has spare room with something in it.
func roomy(v api.Value) api.Value {
	l := make([]api.Value, 0, len(v.L)+3)
	for _, x := range v.L {
		l = append(l, roomy(x))
	}
	fill := l[len(l):cap(l)]
	for i := range fill {
		fill[i] = spare()
	}
	v.L = l
	return v
}

// spare is what stands in spare room.
func spare() api.Value { return api.Value{Kind: api.Name, N: 77, S: "spare"} }

// untouched tells whether a value that roomy made is still v, its spare room included.
func untouched(r, v api.Value) bool {
	if r.Kind != v.Kind || r.N != v.N || r.S != v.S || len(r.L) != len(v.L) {
		return false
	}
	for _, x := range r.L[len(r.L):cap(r.L)] {
		if !reflect.DeepEqual(x, spare()) {
			return false
		}
	}
	for i := range r.L {
		if !untouched(r.L[i], v.L[i]) {
			return false
		}
	}
	return true
}

// scribble writes over all lists of a value, their spare room included.
func scribble(v api.Value) {
	for _, x := range v.L {
		scribble(x)
	}
	for i := range v.L[:cap(v.L)] {
		v.L[:cap(v.L)][i] = whole(-99)
	}
}

func TestWhatIsHandedInIsLeft(t *testing.T) { // R3: neither changed nor kept, its spare room neither read nor changed
	c := chance{rand.New(rand.NewPCG(13, 6))}
	for range 20000 {
		v := c.any(3)
		r := roomy(v)
		s, e := show.Value(r)
		n := show.Length(r)
		if !untouched(r, v) {
			t.Errorf("%s was changed: %s", brief(v), brief(r))
		}
		scribble(r)
		if u, f := show.Value(v); u != s || f != e || n != len(u) {
			t.Errorf("%s: %q, %v, and %q, %v, %d", brief(v), s, e, u, f, n)
		}
		few(t)
	}
}

func TestTheSameTwice(t *testing.T) { // R4: whatever was shown ahead
	v := dict(name("A"), array(ref(3), text("\n"), text("(")), name("B#"), millionths(-500000))
	for range 3 {
		shows(t, v, "<</A [3 0 R <0a> (\\()] /B#23 -0.5>>")
		refuses(t, array(v, ref(0)), api.ErrArg)
		names(t, "A b", "/A#20b")
		refusesName(t, "\x00")
		tells(t, "\\", "(\\\\)")
		refuses(t, nested(v, 64, api.Array), api.ErrDeep)
		tells(t, strings.Repeat(" ", 9), "(         )")
	}
}

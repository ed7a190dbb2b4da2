package value_test

import (
	"math/rand/v2"
	"slices"
	"testing"

	"catchword/api"
	"catchword/value"
)

// roomy is a value anew, each of whose lists has spare room with something in it.
func roomy(v api.Value) api.Value {
	l := make([]api.Value, 0, len(v.L)+3)
	for _, x := range v.L {
		l = append(l, roomy(x))
	}
	fill := l[len(l):cap(l)]
	for i := range fill {
		fill[i] = spare()
	}
	v.L = l
	return v
}

// spare is what stands in spare room.
func spare() api.Value { return api.Value{Kind: api.Name, N: 77, S: "spare"} }

// untouched tells whether a value that roomy made is still v, its spare room included.
func untouched(r, v api.Value) bool {
	if r.Kind != v.Kind || r.N != v.N || r.S != v.S || len(r.L) != len(v.L) {
		return false
	}
	for _, x := range r.L[len(r.L):cap(r.L)] {
		if !equal(x, spare()) {
			return false
		}
	}
	for i := range r.L {
		if !untouched(r.L[i], v.L[i]) {
			return false
		}
	}
	return true
}

// scribble writes over a value's own list, its spare room included.
func scribble(v api.Value) {
	for i := range v.L[:cap(v.L)] {
		v.L[:cap(v.L)][i] = whole(-99)
	}
}

func TestWhatIsHandedInIsLeft(t *testing.T) { // R3: neither changed, spare room included, nor hanging on what is answered
	c := chance{rand.New(rand.NewPCG(11, 10))}
	l := append(some(), three(), dict(name("A"), whole(1), name("B")), dict(name("A"), array(ref(1)), name("A"), ref(2)))
	for range 2500 {
		l = append(l, c.dict(), c.any(3))
	}
	for _, v := range l {
		r, x := roomy(v), roomy(array(ref(1)))
		to := append(make([]int, 0, 4), 3, 2)
		before := append(slices.Clone(to[:cap(to)]), to...)
		value.Check(r)
		value.Depth(r)
		value.Compare(r, x)
		value.Same(r, r)
		clear(value.Refs(r))
		for _, s := range []string{"", "A", "B", "C", "a", "\xff"} {
			value.Get(r, s)
			if p := value.Put(r, s, x); p.Kind == api.Dict {
				scribble(p)
			}
			if d := value.Drop(r, s); len(d.L) < len(r.L) {
				scribble(d)
			}
		}
		scribble(value.Map(r, to))
		scribble(value.DictOf(r.L...))
		if !untouched(r, v) || !untouched(x, array(ref(1))) || !slices.Equal(to[:cap(to)], before[:cap(to)]) {
			t.Errorf("%s was changed: %s, %s, %v", brief(v), brief(r), brief(x), to[:cap(to)])
		}
		few(t)
	}
}

func TestWhatIsAnsweredIsLeft(t *testing.T) { // R3: a list that was handed in may be written over behind the call
	c := chance{rand.New(rand.NewPCG(11, 11))}
	for range 5000 {
		v := c.dict()
		key, x, to := c.key(), c.any(1), []int{c.IntN(9), c.IntN(9)}
		r := roomy(v)
		p, d, m, o := value.Put(r, key, x), value.Drop(r, key), value.Map(r, to), value.DictOf(r.L...)
		mapped, made := mapPlainly(v, to), value.DictOf(v.L...)
		_, dropped := value.Get(r, key)
		scribble(r)
		clear(to)
		if !equal(p, putPlainly(v, key, x)) || dropped && !equal(d, dropPlainly(v, key)) || !equal(m, mapped) || !equal(o, made) {
			t.Errorf("%s: %s, %s, %s, %s", brief(v), brief(p), brief(d), brief(m), brief(o))
		}
		few(t)
	}
}

func TestTheSameTwice(t *testing.T) { // R4
	v := dict(name("A"), array(ref(3), ref(1)), name("A"), ref(2))
	for range 3 {
		checks(t, v, api.ErrKey)
		refers(t, v, 3, 1, 2)
		gets(t, v, "A", array(ref(3), ref(1)), true)
		turns(t, v, []int{5}, dict(name("A"), array(null(), ref(5)), name("A"), null()))
	}
}

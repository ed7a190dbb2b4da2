package show_test

import (
	"math"
	"math/rand/v2"
	"strings"
	"testing"

	"catchword/api"
	"catchword/value"
)

// wrong are values that may not be, with their errors.
func wrong() map[api.Errno][]api.Value {
	l := []api.Value{whole(1)}
	return map[api.Errno][]api.Value{
		api.ErrArg: {
			{N: 1}, {N: -1}, {S: "a"}, {L: l}, truth(2), truth(-1), {Kind: api.Bool, S: "a"}, {Kind: api.Bool, L: l},
			whole(most + 1), whole(-most - 1), whole(math.MinInt), whole(math.MaxInt), {Kind: api.Int, S: "1"}, {Kind: api.Int, L: l}, millionths(mostReal + 1), millionths(-mostReal - 1), millionths(math.MinInt), {Kind: api.Real, S: "1"}, {Kind: api.Real, L: l},
			{Kind: api.String, N: 1}, {Kind: api.String, S: "a", L: l}, {Kind: api.Name, N: 1}, {Kind: api.Name, S: "A", L: l}, {Kind: api.Array, N: 1}, {Kind: api.Array, S: "a"}, {Kind: api.Dict, N: 1}, {Kind: api.Dict, S: "a"},
			ref(0), ref(-1), ref(4097), ref(math.MaxInt), ref(math.MinInt), {Kind: api.Ref, N: 1, S: "a"}, {Kind: api.Ref, N: 1, L: l}, {Kind: 9}, {Kind: -1}, {Kind: math.MaxInt}, {Kind: math.MinInt}, {Kind: 9, N: 1, S: "a", L: l},
			dict(name("A")), dict(null()), dict(name("A"), null(), name("B")), dict(whole(1), null()), dict(text("A"), null()), dict(ref(1), null()), dict(name("A"), null(), null(), null()), dict(array(), null()),
		},
		api.ErrName: {name("\x00"), name("A\x00"), name(strings.Repeat("n", 128)), {Kind: api.Name, N: 1, S: "\x00"}, dict(name("\x00"), null()), dict(name("A"), null(), name(strings.Repeat("n", 128)), null())},
		api.ErrKey:  {dict(name("A"), null(), name("A"), null()), dict(name("B"), null(), name("A"), null()), dict(name("A"), null(), name("C"), null(), name("B"), null()), dict(name("AB"), null(), name("A"), null()), dict(name("\xff"), null(), name("a"), null()), dict(name("\x00"), null(), name("\x00"), null())},
		api.ErrDeep: {nested(null(), 64, api.Array), nested(null(), 64, api.Dict), nested(array(), 64, api.Array, api.Dict)},
	}
}

func TestWhatMayNotBe(t *testing.T) { // P13.1: each error of value.Check, by itself and within others
	for e, l := range wrong() {
		for _, v := range l {
			refuses(t, v, e)
			refuses(t, array(v), e)
			refuses(t, array(whole(1), text("a"), v, whole(2)), e)
			refuses(t, dict(name("A"), v), e)
			refuses(t, dict(name("A"), v, name("B"), null()), e)
			refuses(t, dict(name("A"), null(), name("B"), v), e)
			refuses(t, array(dict(name("A"), array(array(), v))), e)
			if e != api.ErrDeep {
				refuses(t, nested(v, 61, api.Dict, api.Array), e)
			}
		}
	}
}

func TestTheFirstError(t *testing.T) { // P13.1: as value.Check tells it
	bad := wrong()
	for e, l := range bad {
		for f, m := range bad {
			want := e
			if f == api.ErrDeep {
				want = f
			}
			refuses(t, array(l[0], m[0]), want)
			refuses(t, dict(name("A"), l[0], name("B"), m[0]), want)
			refuses(t, array(array(l[0]), m[0]), want)
		}
	}
	refuses(t, dict(name("B"), ref(0), name("A"), null()), api.ErrKey) // a Dict's own ahead of what is in it
	refuses(t, dict(name("\x00"), ref(0)), api.ErrName)
	refuses(t, dict(name("A"), ref(0), name("B\x00"), null()), api.ErrArg)
}

func TestErrorsByChance(t *testing.T) { // P13.1
	c := chance{rand.New(rand.NewPCG(13, 3))}
	seen := map[api.Errno]int{}
	for range 100000 {
		v := c.any(3)
		e := value.Check(v)
		seen[e]++
		if e == api.OK {
			agrees(t, v)
		} else {
			refuses(t, v, e)
		}
	}
	for _, e := range []api.Errno{api.OK, api.ErrArg, api.ErrName, api.ErrKey} {
		if seen[e] < 100 {
			t.Error(seen)
		}
	}
}

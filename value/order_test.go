package value_test

import (
	"math/rand/v2"
	"slices"
	"strings"
	"testing"

	"catchword/api"
	"catchword/value"
)

// stands asks for Compare's and Same's answers, of two values either way.
func stands(t *testing.T, a, b api.Value, want int) {
	t.Helper()
	if n := value.Compare(a, b); n != want {
		t.Errorf("Compare(%s, %s): %d, want %d", brief(a), brief(b), n, want)
	}
	if n := value.Compare(b, a); n != -want {
		t.Errorf("Compare(%s, %s): %d, want %d", brief(b), brief(a), n, -want)
	}
	if value.Same(a, b) != (want == 0) || value.Same(b, a) != (want == 0) {
		t.Errorf("Same(%s, %s): %v", brief(a), brief(b), want != 0)
	}
}

func TestCompare(t *testing.T) { // P11.1: the one of each two stands ahead
	for _, x := range [][2]api.Value{
		{null(), truth(0)}, {truth(1), whole(-5)}, {whole(9), real(-9)}, {real(9), text("")}, {text("b"), name("a")}, {name("z"), array()}, {array(ref(9)), dict()}, {dict(name("A"), null()), ref(0)}, {{Kind: -1}, null()}, {ref(9), {Kind: 9}}, {{Kind: -2, N: 9}, {Kind: -1}}, {{Kind: -1 << 63}, {Kind: 1<<63 - 1}}, // Kind
		{with(null(), 9), truth(0)}, {said(null(), "z"), truth(0)}, {holding(null(), ref(9)), truth(0)},
		{whole(-2), whole(2)}, {whole(1), whole(2)}, {whole(-2), whole(-1)}, {whole(-1 << 63), whole(1<<63 - 1)}, {whole(-1 << 63), whole(0)}, {whole(9), whole(10)}, {real(-1), real(0)}, {ref(2), ref(10)}, {truth(0), truth(1)}, {whole(0), whole(1 << 32)}, // N
		{said(whole(1), "z"), whole(2)}, {holding(whole(1), ref(9)), whole(2)}, {with(text("z"), -1), text("a")}, {array(ref(9)), with(array(), 1)}, {with(dict(name("B"), null()), 0), with(dict(name("A"), null()), 1)},
		{text(""), text("a")}, {text("a"), text("ab")}, {text("a"), text("b")}, {text("ab"), text("b")}, {text("B"), text("a")}, {text("a"), text("a\x00")}, {text("a\x00"), text("a\x01")}, {text("\x7f"), text("\x80")}, {text("a\x7f"), text("a\xff")}, {text("\x80"), text("\xff")}, {text("z"), text("\xc3\xa9")}, {name("Kid"), name("Kids")}, {name(""), name("\x00")}, {text("\xef\xbf\xbd"), text("\xff")}, // S
		{holding(text("a"), ref(9)), text("b")}, {said(array(ref(9)), "a"), said(array(), "b")}, {said(dict(name("B"), null()), "a"), said(dict(name("A"), null()), "ab")},
		{array(), array(null())}, {array(whole(1)), array(whole(1), null())}, {array(whole(1), whole(9)), array(whole(2))}, {array(whole(1), whole(2), whole(9)), array(whole(1), whole(3))}, {array(null(), null()), array(null(), truth(0))}, {array(array()), array(array(), null())}, {array(array(), ref(9)), array(array(null()))}, {array(array(array(whole(1)))), array(array(array(whole(2))))}, // L
		{dict(), dict(name("A"))}, {dict(name("A"), whole(9)), dict(name("B"), whole(1))}, {dict(name("A"), whole(1)), dict(name("A"), whole(2))}, {dict(name("A"), null()), dict(name("A"), null(), name("B"), null())}, {dict(name("A"), null(), name("C"), null()), dict(name("A"), whole(1))},
		{ref(1), holding(ref(1), null())}, {holding(ref(1), ref(2)), holding(ref(1), ref(3))}, {holding(null(), null()), holding(null(), null(), null())}, {holding(api.Value{Kind: 9}, null()), holding(api.Value{Kind: 9}, truth(0))},
	} {
		stands(t, x[0], x[1], -1)
		stands(t, array(x[0], ref(9)), array(x[1]), -1)
		stands(t, dict(name("A"), x[0]), dict(name("A"), x[1]), -1)
		stands(t, holding(whole(1), x[0], ref(9)), holding(whole(1), x[1], null()), -1)
	}
}

func TestSame(t *testing.T) { // P11.1: like ones, made anew, and a list that is empty as one that is not there
	c := chance{rand.New(rand.NewPCG(11, 2))}
	l := append(append(some(), good()...), nested(ref(1), 500, api.Array, api.Dict))
	for range 1000 {
		l = append(l, c.any(4))
	}
	for _, v := range l {
		stands(t, v, v, 0)
		stands(t, v, bare(v), 0)
		stands(t, array(v, v), array(bare(v), v), 0)
	}
	stands(t, api.Value{Kind: api.Array, L: []api.Value{}}, array(), 0)
	stands(t, api.Value{L: []api.Value{}}, api.Value{}, 0)
	stands(t, dict(name("A"), api.Value{Kind: api.Dict, L: []api.Value{}}), dict(name("A"), dict()), 0)
	stands(t, text(strings.Repeat("a", 1<<20)+"a"), text(strings.Repeat("a", 1<<20)+"b"), -1)
	stands(t, nested(whole(1), 1<<16, api.Array), nested(whole(2), 1<<16, api.Array), -1)
	stands(t, nested(whole(1), 1<<16, api.Int, api.Dict), nested(whole(1), 1<<16, api.Int, api.Dict), 0)
}

func TestCompareOfAnyTwo(t *testing.T) { // P11.1: each with each, and many by chance
	l := append(some(), good()...)
	for _, a := range l {
		for _, b := range l {
			stands(t, a, b, comparePlainly(a, b))
		}
	}
	few(t)
	c := chance{rand.New(rand.NewPCG(11, 3))}
	seen := map[int]int{}
	for range 100000 {
		a, b := c.any(3), c.any(3)
		if c.IntN(2) == 0 {
			b = changed(c, a)
		}
		stands(t, a, b, comparePlainly(a, b))
		few(t)
		seen[value.Compare(a, b)]++
	}
	if seen[-1] < 10000 || seen[0] < 1000 || seen[1] < 10000 {
		t.Error(seen)
	}
}

// changed is a value that differs by chance in one field, maybe of what is in it, or in none.
func changed(c chance, v api.Value) api.Value {
	if len(v.L) > 0 && c.IntN(3) > 0 {
		v.L = slices.Clone(v.L)
		i := c.IntN(len(v.L))
		v.L[i] = changed(c, v.L[i])
		return v
	}
	switch c.IntN(6) {
	case 0:
		v.Kind += c.IntN(3) - 1
	case 1:
		v.N += c.IntN(3) - 1
	case 2:
		v.S += c.text()
	case 3:
		v.L = append(slices.Clone(v.L), c.any(1))
	case 4:
		v.L = v.L[:len(v.L)/2]
	}
	return v
}

func TestTheOrderIsTotal(t *testing.T) { // P11.5: of any three
	l := append(some(), good()...)
	for _, a := range l {
		for _, b := range l {
			ab := value.Compare(a, b)
			if ab < -1 || ab > 1 || ab != -value.Compare(b, a) || (ab == 0) != equal(a, b) {
				t.Errorf("%s and %s: %d", brief(a), brief(b), ab)
			}
			for _, x := range l {
				if bx := value.Compare(b, x); ab <= 0 && bx <= 0 && value.Compare(a, x) != min(ab, bx) {
					t.Errorf("%s, %s and %s: %d, %d, but %d", brief(a), brief(b), brief(x), ab, bx, value.Compare(a, x))
				}
			}
			few(t)
		}
	}
	c := chance{rand.New(rand.NewPCG(11, 4))}
	for range 50000 {
		x := []api.Value{c.any(2), c.any(2), c.any(2)}
		x[1] = changed(c, x[c.IntN(2)])
		slices.SortFunc(x, value.Compare)
		if value.Compare(x[0], x[1]) > 0 || value.Compare(x[1], x[2]) > 0 || value.Compare(x[0], x[2]) != min(value.Compare(x[0], x[1]), value.Compare(x[1], x[2])) {
			t.Errorf("%s", brief(array(x...)))
		}
		few(t)
	}
}

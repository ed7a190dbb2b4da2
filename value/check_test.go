package value_test

import (
	"math"
	"math/rand/v2"
	"strings"
	"testing"

	"catchword/api"
	"catchword/value"
)

const (
	mostWhole = 1<<31 - 1
	mostReal  = mostWhole * 1000000
)

// long is a name of so many bytes.
func long(n int) api.Value { return name(strings.Repeat("n", n)) }

// good are values of each Kind that may be.
func good() []api.Value {
	return []api.Value{
		null(), truth(0), truth(1), whole(0), whole(7), whole(mostWhole), whole(-mostWhole), real(0), real(-500000), real(mostReal), real(-mostReal), real(mostWhole + 1),
		text(""), text("a"), text("\x00\x80\xff"), text(strings.Repeat("t", 1000)), name(""), name("A"), name("\x01"), name("\xff\x80 /()"), long(126), long(127),
		array(), dict(), dict(name("A"), null()), dict(name(""), null()), dict(name(""), null(), name("\x01"), null()), ref(1), ref(2), ref(4095), ref(4096),
		dict(name("A"), name("B"), name("AB"), name("A"), name("B"), name("A"), name("a"), null(), long(127), null(), name("\x7f"), null(), name("\x80"), null()),
	}
}

// wrong is a value that may not be by itself, and its error.
type wrong struct {
	v api.Value
	e api.Errno
}

func bad() []wrong {
	var l []wrong
	add := func(e api.Errno, vs ...api.Value) {
		for _, v := range vs {
			l = append(l, wrong{v, e})
		}
	}
	add(api.ErrArg, with(null(), 1), with(null(), -1), truth(2), truth(-1), truth(math.MaxInt), truth(math.MinInt))
	add(api.ErrArg, whole(mostWhole+1), whole(-mostWhole-1), whole(math.MaxInt), whole(math.MinInt), real(mostReal+1), real(-mostReal-1), real(math.MaxInt), real(math.MinInt))
	add(api.ErrArg, with(text("a"), 1), with(text(""), -1), with(name("A"), 1), with(name(""), -1), with(array(), 1), with(array(null()), -1), with(dict(), 1), with(dict(name("A"), null()), -1))
	add(api.ErrArg, ref(0), ref(-1), ref(4097), ref(math.MaxInt), ref(math.MinInt))
	for _, kind := range []int{-1, 9, 10, math.MaxInt, math.MinInt} {
		add(api.ErrArg, api.Value{Kind: kind}, api.Value{Kind: kind, N: 1}, api.Value{Kind: kind, S: "A"}, api.Value{Kind: kind, L: []api.Value{null()}})
	}
	for _, v := range []api.Value{null(), truth(0), whole(1), real(1), array(), array(null()), dict(), dict(name("A"), null()), ref(1)} {
		add(api.ErrArg, said(v, "a"), said(v, "\x00"))
	}
	for _, v := range []api.Value{null(), truth(1), whole(1), real(1), text("a"), text(""), name("A"), name(""), ref(1)} {
		add(api.ErrArg, holding(v, null()), holding(v, name("A"), null()), holding(v, name("\x00")))
	}
	add(api.ErrName, name("\x00"), name("a\x00"), name("\x00a"), name("a\x00b"), long(128), long(1000), name(strings.Repeat("\x00", 128)), name(strings.Repeat("n", 126)+"\x00"))
	add(api.ErrName, with(name("\x00"), 1), holding(long(128), null()), holding(with(name("a\x00"), -1), null())) // ErrName is named ahead of ErrArg
	add(api.ErrArg, dict(name("A")), dict(null()), dict(name("A"), null(), name("B")), dict(name("A"), null(), null()))
	for _, v := range []api.Value{null(), truth(1), whole(1), real(1), text("A"), array(), array(name("A")), dict(), ref(1), {Kind: -1}, {Kind: 9, S: "A"}} {
		add(api.ErrArg, dict(v, null()), dict(name("A"), null(), v, null()), dict(v, null(), name("A"), null()), dict(v, name("A")))
	}
	add(api.ErrKey, dict(name("B"), null(), name("A"), null()), dict(name("A"), null(), name("A"), null()), dict(name("AB"), null(), name("A"), null()), dict(name("A"), null(), name(""), null()), dict(name(""), null(), name(""), null()))
	add(api.ErrKey, dict(name("A"), null(), name("C"), null(), name("B"), null()), dict(name("A"), null(), name("B"), null(), name("A"), null()), dict(name("B"), null(), name("A"), null(), name("C"), null()), dict(name("a"), null(), name("B"), null()), dict(name("\x80"), null(), name("\x7f"), null()), dict(long(127), null(), name("A"), null()))
	return l
}

func TestCheckOfEachKind(t *testing.T) { // P11.1
	checks(t, array(ref(3), ref(1), ref(3)), api.OK)
	for _, v := range good() {
		checks(t, v, api.OK)
	}
	for _, x := range bad() {
		checks(t, x.v, x.e)
	}
}

func TestCheckOfNumbers(t *testing.T) { // P11.1
	for n := -5; n < 5000; n++ {
		e := api.ErrArg
		if n == 0 || n == 1 {
			e = api.OK
		}
		checks(t, truth(n), e)
		e = api.ErrArg
		if 1 <= n && n <= 4096 {
			e = api.OK
		}
		checks(t, ref(n), e)
	}
}

func TestCheckOfNames(t *testing.T) { // P11.1: each length, and each byte at each place
	for n := range 300 {
		e := api.OK
		if n > 127 {
			e = api.ErrName
		}
		checks(t, long(n), e)
		checks(t, dict(long(n), null()), e)
		checks(t, text(strings.Repeat("n", n)), api.OK)
	}
	for c := range 256 {
		e := api.OK
		if c == 0 {
			e = api.ErrName
		}
		for _, s := range []string{"", "A", "AB", strings.Repeat("n", 126)} {
			for at := range len(s) + 1 {
				checks(t, name(s[:at]+string([]byte{byte(c)})+s[at:]), e)
			}
		}
	}
}

func TestCheckOfOnesInOthers(t *testing.T) { // P11.1: in Arrays and Dicts, alone and among others, and in one another
	around := func(v api.Value) []api.Value {
		return []api.Value{array(v), array(null(), v), array(v, null()), array(array(), v, dict()), dict(name("K"), v), dict(name("A"), null(), name("K"), v), dict(name("K"), v, name("L"), null())}
	}
	each := func(v api.Value, e api.Errno) {
		for _, x := range around(v) {
			checks(t, x, e)
			for _, y := range around(x) {
				checks(t, y, e)
			}
		}
	}
	for _, v := range good() {
		each(v, api.OK)
	}
	for _, x := range bad() {
		each(x.v, x.e)
	}
}

func TestCheckOfNamesInDicts(t *testing.T) { // P11.1: a name in a name's place is a value like others, and so must be one that may be
	checks(t, dict(name("\x00"), null()), api.ErrName)
	checks(t, dict(name("A"), null(), long(128), null()), api.ErrName)
	checks(t, dict(with(name("A"), 1), null()), api.ErrArg)
	checks(t, dict(holding(name("A"), null()), null()), api.ErrArg)
	checks(t, dict(name("A"), whole(1), with(name("B"), 2), null()), api.ErrArg)
}

func TestCheckTellsTheFirst(t *testing.T) { // P11.1: the value's own error ahead of those in it, one ahead of the next, whatever is in it
	for _, x := range bad() {
		for _, y := range bad() {
			checks(t, array(x.v, y.v), x.e)
			checks(t, array(null(), array(x.v), y.v), x.e)
			checks(t, array(dict(name("A"), dict(name("B"), x.v)), dict(name("A"), y.v)), x.e)
			checks(t, dict(name("A"), x.v, name("B"), y.v), x.e)
			checks(t, dict(name("A"), x.v, name("B\x00"), y.v), x.e)
			few(t)
		}
		checks(t, with(array(x.v), 1), api.ErrArg)
		checks(t, said(dict(name("A"), x.v), "a"), api.ErrArg)
		checks(t, dict(name("A"), x.v, name("B")), api.ErrArg)
		checks(t, dict(name("A"), x.v, whole(1), null()), api.ErrArg)
		checks(t, dict(name("A"), x.v, name("A"), null()), api.ErrKey)
		checks(t, dict(name("\x00"), x.v), api.ErrName)
		checks(t, dict(long(128), null(), name("A"), x.v), api.ErrKey)
		checks(t, dict(name("A"), x.v, long(128), null()), x.e)
		checks(t, dict(with(name("A"), 1), x.v), api.ErrArg)
		checks(t, array(dict(name("A"), null(), name("A"), x.v), with(null(), 1)), api.ErrKey)
	}
	checks(t, dict(name("B"), null(), name("A"), null(), name("C")), api.ErrArg)         // of a Dict's own errors ErrArg is named first
	checks(t, dict(name("B"), null(), name("A"), null(), whole(1), null()), api.ErrArg)  // wherever it stands
	checks(t, dict(name("B"), null(), name("B"), null(), text("A"), null()), api.ErrArg) // a text is no Name
	checks(t, with(dict(name("B"), null(), name("A"), null()), 1), api.ErrArg)           // its N, too
	checks(t, said(dict(name("B"), null(), name("A"), null()), "a"), api.ErrArg)         // and its S
	checks(t, dict(name("\x00"), null(), name("\x00"), null()), api.ErrKey)              // the names' own errors stand behind
	checks(t, dict(name("A\x00"), null(), name("A"), null()), api.ErrKey)                // whichever they are
	checks(t, dict(name("\x00"), with(null(), 1), name("A"), null()), api.ErrName)       // a name is ahead of its value
	checks(t, dict(name("A"), with(null(), 1), name("A\x00"), null()), api.ErrArg)       // and a value ahead of the next name
	checks(t, dict(name("A"), dict(name("A"), null(), name("A"), null()), long(128), null()), api.ErrKey)
}

func TestDepth(t *testing.T) { // P11.1
	for _, x := range []struct {
		v api.Value
		n int
	}{
		{null(), 1}, {whole(7), 1}, {text("((()))"), 1}, {name("A"), 1}, {ref(3), 1}, {truth(2), 1}, {api.Value{Kind: -1}, 1}, {api.Value{Kind: 9}, 1},
		{array(), 1}, {dict(), 1}, {array(null()), 2}, {dict(name("A"), null()), 2}, {dict(name("A")), 2}, {dict(null()), 2}, {array(array()), 2}, {array(dict()), 2}, {array(array(null())), 3},
		{array(null(), array(array()), null()), 3}, {array(array(array(array())), array()), 4}, {array(array(), array(array(array()))), 4}, {dict(name("A"), array(dict(name("B"), array()))), 4},
		{dict(array(array(null())), null()), 4}, {dict(name("A"), null(), array(array(null()))), 4}, {with(array(null()), -3), 2}, {said(dict(name("A"), null()), "S"), 2},
		{holding(null(), null()), 1}, {holding(whole(1), array(array(null()))), 1}, {holding(text("a"), null()), 1}, {holding(name("a"), dict()), 1}, {holding(ref(1), ref(1)), 1}, {holding(api.Value{Kind: 9}, array(null())), 1}, {holding(api.Value{Kind: -1}, array(null())), 1},
		{array(holding(whole(1), array(array(null())))), 2}, {array(holding(truth(1), array(null())), array(null())), 3}, {dict(holding(name("A"), array(null())), null()), 2},
	} {
		if n := value.Depth(x.v); n != x.n {
			t.Errorf("Depth(%s): %d, want %d", brief(x.v), n, x.n)
		}
	}
}

func TestTooDeep(t *testing.T) { // P11.1: depths about MaxDeep, and far above
	for _, kinds := range [][]int{{api.Array}, {api.Dict}, {api.Array, api.Dict}, {api.Dict, api.Array, api.Array}} {
		for _, innermost := range []api.Value{null(), array(), dict(), text("a"), ref(1)} {
			for _, n := range []int{0, 1, 2, 30, 61, 62, 63, 64, 65, 66, 100, 127, 128, 255, 256, 1000, 1 << 16} {
				v := nested(innermost, n, kinds...)
				e := api.OK
				if n >= 64 {
					e = api.ErrDeep
				}
				checks(t, v, e)
				checks(t, array(null(), v, null()).L[1], e)
				if got := value.Depth(v); got != n+1 {
					t.Errorf("Depth of one in %d others: %d", n, got)
				}
			}
		}
	}
	checks(t, nested(holding(whole(1), null()), 63, api.Array), api.ErrArg) // what has no depth is not too deep
	checks(t, holding(whole(1), nested(null(), 100, api.Array)), api.ErrArg)
	checks(t, array(holding(text("a"), nested(null(), 64, api.Array))), api.ErrArg)
}

func TestTooDeepIsAheadOfAll(t *testing.T) { // P11.1
	deep := nested(null(), 64, api.Array)
	for _, x := range bad() {
		checks(t, array(x.v, deep), api.ErrDeep)
		checks(t, array(deep, x.v), api.ErrDeep)
		checks(t, dict(name("A"), x.v, name("A"), deep), api.ErrDeep)
		checks(t, nested(x.v, 64, api.Dict, api.Array), api.ErrDeep)
		checks(t, nested(x.v, 61, api.Dict, api.Array), x.e)
		checks(t, with(said(array(deep, x.v), "a"), 3), api.ErrDeep)
	}
	checks(t, dict(deep), api.ErrDeep)
	checks(t, dict(deep, null()), api.ErrDeep)
	checks(t, dict(name("\x00"), deep), api.ErrDeep)
	checks(t, with(nested(null(), 64, api.Array), 1), api.ErrDeep)
	checks(t, with(nested(null(), 63, api.Array), 1), api.ErrArg)
}

func TestCheckOfMany(t *testing.T) { // P11.1: values by chance, that may be and that may not
	c := chance{rand.New(rand.NewPCG(11, 1))}
	seen := map[api.Errno]int{}
	for range 200000 {
		v := c.any(4)
		if c.IntN(2) == 0 {
			v = c.dict()
		}
		if c.IntN(50) == 0 {
			v = nested(v, 58+c.IntN(8), api.Array, api.Dict)
		}
		checks(t, v, checkPlainly(v))
		if n := value.Depth(v); n != depthPlainly(v) {
			t.Errorf("Depth(%s): %d, want %d", brief(v), n, depthPlainly(v))
		}
		few(t)
		seen[value.Check(v)]++
		checks(t, c.right(4), api.OK)
	}
	for _, e := range []api.Errno{api.OK, api.ErrArg, api.ErrDeep, api.ErrKey, api.ErrName} {
		if seen[e] < 500 {
			t.Error(seen)
		}
	}
}

func TestCheckOfMuch(t *testing.T) { // P11.1, and R1
	l := make([]api.Value, 1<<18)
	checks(t, array(l...), api.OK)
	l[len(l)-1] = whole(mostWhole + 1)
	checks(t, array(l...), api.ErrArg)
	if n := value.Depth(array(array(l...))); n != 3 {
		t.Error(n)
	}
	for i := range l {
		l[i] = name(string([]byte{1 + byte(i>>13), 1 + byte(i>>7&63), 1 + byte(i>>1&63)}))
	}
	checks(t, dict(l...), api.OK)
	l[len(l)-2] = l[0]
	checks(t, dict(l...), api.ErrKey)
	l[len(l)-2] = null()
	checks(t, dict(l...), api.ErrArg)
	checks(t, text(strings.Repeat("\x00", 1<<20)), api.OK)
	checks(t, name(strings.Repeat("\x01", 1<<20)), api.ErrName)
}

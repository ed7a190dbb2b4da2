package frame_test

import (
	"math"
	"math/rand/v2"
	"slices"
	"strings"
	"testing"

	"catchword/api"
	"catchword/frame"
	"catchword/value"
)

// wrongValues are values that may not be, with their errors.
func wrongValues() map[api.Errno][]api.Value {
	return map[api.Errno][]api.Value{
		api.ErrArg:  {ref(0), ref(4097), ref(-1), whole(most + 1), whole(math.MinInt), truth(2), {N: 1}, {S: "a"}, {Kind: 9}, {Kind: -1}, {Kind: api.Dict, N: 1}, dict(name("A")), dict(whole(1), null()), dict(name("A"), ref(0)), array(ref(0)), dict(name("A"), null(), name("B"), array(ref(0)))},
		api.ErrName: {name("\x00"), name(strings.Repeat("n", 128)), dict(name("\x00"), null()), dict(name("A"), name("A\x00"))},
		api.ErrKey:  {dict(name("A"), null(), name("A"), null()), dict(name("B"), null(), name("A"), null()), dict(name("A"), dict(name("B"), null(), name("B"), null()))},
		api.ErrDeep: {nested(null(), 64), nested(dict(), 64), dict(name("A"), nested(null(), 63))},
	}
}

// hows are the names that a stream's dictionary may not have.
func hows() []string { return []string{"Length", "Filter", "DecodeParms"} }

// nearHows are names that it may.
func nearHows() []string {
	return []string{"", "length", "LENGTH", "Lengt", "Length1", "Length ", "/Length", "filter", "Filte", "Filters", "FFilter", "Decode", "DecodeParm", "DecodeParms1", "Decodeparms", "FlateDecode", "Length\xff", "L", "F", "DP"}
}

func checks(t *testing.T, o api.Object, e api.Errno) {
	t.Helper()
	if f := frame.Check(o); f != e {
		t.Errorf("Check(%s): %v, want %v", brief(o), f, e)
	}
	few(t)
}

func TestCheckOfValues(t *testing.T) { // P14.1: of each Kind, without data and with some
	for _, v := range goodValues() {
		checks(t, plain(v), api.OK)
		for _, s := range []string{"x", "\x00", "\n", " ", strings.Repeat("x", 300)} {
			checks(t, api.Object{V: v, Data: s}, api.ErrArg)
		}
		if v.Kind != api.Dict {
			for _, s := range []string{"", "x"} {
				checks(t, api.Object{V: v, Stream: true, Data: s}, api.ErrArg)
			}
		}
	}
	for _, s := range hows() { // in a value by itself they say nothing
		checks(t, plain(dict(name(s), whole(1))), api.OK)
		checks(t, plain(name(s)), api.OK)
	}
}

func TestCheckOfStreams(t *testing.T) { // P14.1: each of the three names, alone and among others
	for _, data := range []string{"", "x", "\x00\n"} {
		for _, v := range goodValues() {
			if v.Kind == api.Dict {
				checks(t, api.Object{V: v, Stream: true, Data: data}, api.OK)
			}
			if value.Depth(v) == 64 {
				continue
			}
			for _, s := range hows() {
				checks(t, stream(data, name(s), v), api.ErrArg)
				checks(t, stream(data, name("A"), v, name(s), v), api.ErrArg)
				checks(t, stream(data, name(s), v, name("a"), v), api.ErrArg)
				checks(t, stream(data, name("A"), v, name(s), v, name("a"), v), api.ErrArg)
				checks(t, stream(data, name("DM"), name(s), name("K"), text(s), name("a"), array(name(s)), name("b"), dict(name(s), v)), api.OK)
			}
			for _, s := range nearHows() {
				checks(t, stream(data, name(s), v), api.OK)
			}
		}
		checks(t, stream(data, name("DecodeParms"), null(), name("Filter"), null(), name("Length"), null()), api.ErrArg)
		checks(t, stream(data, name("DecodeParms"), null(), name("Length"), null()), api.ErrArg)
		checks(t, stream(data, name("Filter"), name("FlateDecode"), name("Length"), whole(len(data))), api.ErrArg)
	}
	d := dict()
	for _, s := range nearHows() {
		d = value.Put(d, s, whole(len(s)))
	}
	checks(t, api.Object{V: d, Stream: true, Data: "x"}, api.OK)
	for _, s := range hows() {
		checks(t, api.Object{V: value.Put(d, s, null()), Stream: true, Data: "x"}, api.ErrArg)
	}
}

func TestCheckOfWrongValues(t *testing.T) { // P14.1: each error of value's Check, ahead of all else
	long := strings.Repeat("x", api.MaxData+1)
	for e, l := range wrongValues() {
		for _, v := range l {
			for _, data := range []string{"", "x", long} {
				checks(t, api.Object{V: v, Data: data}, e)
				checks(t, api.Object{V: v, Stream: true, Data: data}, e)
			}
			if e != api.ErrDeep {
				checks(t, plain(array(null(), v)), e)
				checks(t, stream("x", name("A"), v), e)
				checks(t, stream("x", name("Filter"), v), e)
				checks(t, stream(long, name("Length"), whole(1), name("Z"), v), e)
			}
		}
	}
	checks(t, stream("", name("Length"), whole(1), name("Filter"), null()), api.ErrKey)
	checks(t, stream("", name("Length"), whole(1), name("Length"), whole(1)), api.ErrKey)
	checks(t, stream("", name("Length")), api.ErrArg)
}

func TestCheckOfMuchData(t *testing.T) { // P14.1: 2^24 bytes, and one more
	for _, s := range []string{"x", "\x00"} {
		for n, e := range map[int]api.Errno{1 << 16: api.OK, 1<<24 - 1: api.OK, 1 << 24: api.OK, 1<<24 + 1: api.ErrLong, 1<<24 + 2: api.ErrLong, 1 << 25: api.ErrLong} {
			data := strings.Repeat(s, n)
			checks(t, stream(data), e)
			checks(t, stream(data, name("Type"), name("X")), e)
			checks(t, plain(dict()), api.OK)
			checks(t, api.Object{V: dict(), Data: data}, api.ErrArg)
			checks(t, api.Object{V: null(), Stream: true, Data: data}, api.ErrArg)
			checks(t, stream(data, name("Length"), whole(n)), api.ErrArg)
		}
	}
}

// differ are objects, none of which is like another.
func differ() []api.Object {
	l := []api.Object{stream("abd"), stream("abc "), stream(" abc"), stream("ab"), stream("ab\x00"), stream("ABC"), {Stream: true, Data: "abc"}, {V: array(), Stream: true, Data: "abc"}, {V: dict(), Data: "abc"}, {Data: "abc"}, {Data: "abd"}, {Stream: true}, {V: api.Value{Kind: 9}}, {V: ref(0)}, {V: ref(0), Stream: true}}
	for _, v := range goodValues() {
		l = append(l, plain(v), api.Object{V: v, Data: "x"})
		if v.Kind == api.Dict {
			l = append(l, api.Object{V: v, Stream: true}, api.Object{V: v, Stream: true, Data: "abc"})
		}
	}
	return l
}

func TestSame(t *testing.T) { // P14.1: objects that are alike, and that differ in one thing
	l, again := differ(), differ()
	for i, a := range l {
		for k, b := range again {
			if got := frame.Same(a, b); got != (i == k) {
				t.Errorf("Same(%s, %s): %v", brief(a), brief(b), got)
			}
		}
	}
	none, empty := stream("abc"), stream("abc")
	none.V.L, empty.V.L = nil, []api.Value{}
	if !frame.Same(none, empty) || !frame.Same(api.Object{}, api.Object{}) {
		t.Error("no list and an empty one are one")
	}
	order := []api.Value{name("A"), null(), name("B"), null()}
	turned := slices.Concat(order[2:], order[:2])
	if frame.Same(stream("", order...), stream("", turned...)) {
		t.Error("the order of names is one thing")
	}
}

func TestSameByChance(t *testing.T) { // P14.1
	c := chance{rand.New(rand.NewPCG(14, 1))}
	others := 0
	for range 20000 {
		a, b := c.object(), c.object()
		switch c.IntN(4) {
		case 0:
			b = a
		case 1:
			b = a
			b.Stream = !b.Stream
		case 2:
			b = a
			b.Data += c.pick("", "x")
		}
		if frame.Same(a, b) != alike(a, b) || frame.Same(b, a) != alike(a, b) || !frame.Same(a, a) {
			t.Fatalf("Same(%s, %s): %v", brief(a), brief(b), frame.Same(a, b))
		}
		if !alike(a, b) {
			others++
		}
	}
	if others < 5000 || others > 15000 {
		t.Error(others)
	}
}

func TestObjectAndStream(t *testing.T) { // P14.1: such ones, also of what may not be
	l := goodValues()
	for _, w := range wrongValues() {
		l = append(l, w...)
	}
	for _, v := range l {
		if o := frame.Object(v); !value.Same(o.V, v) || o.Stream || o.Data != "" {
			t.Errorf("Object: %s", brief(o))
		}
		for _, s := range []string{"", "x", "endstream", "\x00\xff"} {
			if o := frame.Stream(v, s); !value.Same(o.V, v) || !o.Stream || o.Data != s {
				t.Errorf("Stream: %s", brief(o))
			}
		}
	}
}

package value_test

import (
	"math/rand/v2"
	"strconv"
	"strings"
	"testing"

	"catchword/api"
	"catchword/value"
)

// gets, puts and drops ask for Get's, Put's and Drop's answers.
func gets(t *testing.T, v api.Value, key string, want api.Value, is bool) {
	t.Helper()
	if x, ok := value.Get(v, key); !equal(x, want) || ok != is {
		t.Errorf("Get(%s, %q): %s, %v, want %s, %v", brief(v), key, brief(x), ok, brief(want), is)
	}
}

func puts(t *testing.T, v api.Value, key string, x, want api.Value) {
	t.Helper()
	if p := value.Put(v, key, x); !equal(p, want) {
		t.Errorf("Put(%s, %q, %s): %s, want %s", brief(v), key, brief(x), brief(p), brief(want))
	}
}

func drops(t *testing.T, v api.Value, key string, want api.Value) {
	t.Helper()
	if d := value.Drop(v, key); !equal(d, want) {
		t.Errorf("Drop(%s, %q): %s, want %s", brief(v), key, brief(d), brief(want))
	}
}

// three is a Dict of B, D and F, with the values 1, 2 and 3.
func three() api.Value {
	return dict(name("B"), whole(1), name("D"), whole(2), name("F"), whole(3))
}

func TestGet(t *testing.T) { // P11.2: of a name that stands first, in the middle, last, not at all, and twice
	for i, s := range []string{"B", "D", "F"} {
		gets(t, three(), s, whole(i+1), true)
	}
	for _, s := range []string{"", "A", "C", "E", "G", "b", "BB", "B\x00", "\x00", "\xff"} {
		gets(t, three(), s, null(), false)
		gets(t, dict(), s, null(), false)
	}
	gets(t, dict(name("A"), null()), "A", null(), true)
	gets(t, dict(name(""), whole(1)), "", whole(1), true)
	gets(t, dict(name("A"), array(ref(1))), "A", array(ref(1)), true)
	gets(t, dict(name("A"), dict(name("B"), whole(1))), "B", null(), false)
	gets(t, dict(name("A"), whole(1), name("A"), whole(2)), "A", whole(1), true)
	gets(t, dict(name("B"), whole(0), name("A"), whole(1), name("C"), whole(3), name("A"), whole(2)), "A", whole(1), true)
	gets(t, with(said(dict(name("A"), whole(1)), "a"), 5), "A", whole(1), true)
	gets(t, dict(name("A\x00"), whole(1)), "A\x00", whole(1), true)
	gets(t, dict(with(name("A"), 5), whole(1)), "A", whole(1), true)
	gets(t, dict(holding(name("A"), null()), whole(1)), "A", whole(1), true)
	gets(t, dict(long(500), whole(1)), long(500).S, whole(1), true)
}

func TestGetOfOddPlaces(t *testing.T) { // P11.2: names in values' places are none, nor are other values in names' places
	gets(t, dict(name("A"), name("B")), "B", null(), false)
	gets(t, dict(name("A"), name("B"), name("B"), whole(1)), "B", whole(1), true)
	for _, v := range []api.Value{text("A"), said(null(), "A"), said(ref(1), "A"), said(array(), "A"), said(dict(), "A"), said(whole(1), "A"), {Kind: 9, S: "A"}, {Kind: -1, S: "A"}} {
		gets(t, dict(v, whole(1)), "A", null(), false)
		gets(t, dict(v, whole(1), name("A"), whole(2)), "A", whole(2), true)
		gets(t, dict(v, name("A"), whole(2), whole(3)), "A", null(), false)
		gets(t, dict(v), "A", null(), false)
	}
	gets(t, dict(name("A")), "A", null(), true) // a last name that has none
	gets(t, dict(name("A"), whole(1), name("B")), "B", null(), true)
	gets(t, dict(name("A"), whole(1), name("A")), "A", whole(1), true)
	gets(t, dict(name("A"), whole(1), name("B")), "A", whole(1), true)
	gets(t, dict(name("A"), whole(1), name("B")), "C", null(), false)
}

// others are values that are no Dicts, though they have names and values in L.
func others() []api.Value {
	l := []api.Value{null(), truth(1), whole(1), real(1), text("A"), name("A"), array(), array(name("A"), whole(1)), ref(1)}
	for _, kind := range []int{-1, api.Null, api.Bool, api.Int, api.Real, api.String, api.Name, api.Array, api.Ref, 9} {
		l = append(l, api.Value{Kind: kind, N: 1, S: "A", L: []api.Value{name("A"), whole(1), name("B"), whole(2)}})
	}
	return l
}

func TestNoDicts(t *testing.T) { // P11.2
	for _, v := range others() {
		for _, s := range []string{"", "A", "B", "C"} {
			gets(t, v, s, null(), false)
			puts(t, v, s, whole(9), v)
			drops(t, v, s, v)
		}
	}
}

func TestPut(t *testing.T) { // P11.2: in another's place, ahead of the first greater one, or at the end
	x := whole(9)
	puts(t, dict(), "A", x, dict(name("A"), x))
	puts(t, dict(), "", x, dict(name(""), x))
	puts(t, three(), "B", x, dict(name("B"), x, name("D"), whole(2), name("F"), whole(3)))
	puts(t, three(), "D", x, dict(name("B"), whole(1), name("D"), x, name("F"), whole(3)))
	puts(t, three(), "F", x, dict(name("B"), whole(1), name("D"), whole(2), name("F"), x))
	for i, s := range []string{"A", "C", "E", "G"} {
		l := append([]api.Value{}, three().L[:2*i]...)
		puts(t, three(), s, x, dict(append(append(l, name(s), x), three().L[2*i:]...)...))
	}
	for i, l := range [][]string{{"", "\x00", "AB", "A\xff"}, {"B\x00", "BB", "C", "Cz"}, {"D\x00", "DD", "E"}, {"F\x00", "FF", "a", "\x7f", "\x80", "\xff"}} {
		for _, s := range l {
			puts(t, three(), s, x, dict(append(append(append([]api.Value{}, three().L[:2*i]...), name(s), x), three().L[2*i:]...)...))
		}
	}
	puts(t, dict(name("\x7f"), null()), "\x80", x, dict(name("\x7f"), null(), name("\x80"), x))
	puts(t, dict(name("\xff"), null()), "\x80", x, dict(name("\x80"), x, name("\xff"), null()))
	puts(t, dict(name("A"), null()), "A", dict(name("A"), array(ref(1))), dict(name("A"), dict(name("A"), array(ref(1)))))
	puts(t, dict(name("A"), whole(1)), "A", null(), dict(name("A"), null()))
	puts(t, dict(), "A\x00", x, dict(name("A\x00"), x))
	puts(t, dict(), long(500).S, x, dict(long(500), x))
	puts(t, with(said(dict(name("A"), whole(1)), "a"), 5), "B", x, with(said(dict(name("A"), whole(1), name("B"), x), "a"), 5))
}

func TestPutOfOddDicts(t *testing.T) { // P11.2: names that fall or stand twice, other values in names' places, a last name that has none
	x := whole(9)
	puts(t, dict(name("A"), whole(1), name("A"), whole(2)), "A", x, dict(name("A"), x, name("A"), whole(2)))
	puts(t, dict(name("C"), whole(1), name("B"), whole(2), name("A"), whole(3)), "A", x, dict(name("C"), whole(1), name("B"), whole(2), name("A"), x))
	puts(t, dict(name("A"), whole(1), name("D"), whole(2), name("C"), whole(3)), "B", x, dict(name("A"), whole(1), name("B"), x, name("D"), whole(2), name("C"), whole(3)))
	puts(t, dict(name("B"), whole(1), name("A"), whole(2)), "C", x, dict(name("B"), whole(1), name("A"), whole(2), name("C"), x))
	puts(t, dict(name("A"), name("B")), "B", x, dict(name("A"), name("B"), name("B"), x))
	puts(t, dict(name("A"), name("Z")), "B", x, dict(name("A"), name("Z"), name("B"), x))
	puts(t, dict(text("Z"), null(), name("C"), null()), "B", x, dict(text("Z"), null(), name("B"), x, name("C"), null()))
	puts(t, dict(text("B"), null()), "B", x, dict(text("B"), null(), name("B"), x))
	puts(t, dict(with(name("B"), 5), null()), "B", x, dict(with(name("B"), 5), x))
	puts(t, dict(name("A")), "A", x, dict(name("A"), x))
	puts(t, dict(name("A"), whole(1), name("B")), "B", x, dict(name("A"), whole(1), name("B"), x))
	puts(t, dict(name("A"), whole(1), name("B")), "A", x, dict(name("A"), x, name("B")))
	puts(t, dict(name("A"), whole(1), name("A")), "A", x, dict(name("A"), x, name("A")))
	puts(t, dict(name("B")), "A", x, dict(name("A"), x, name("B")))
	puts(t, dict(name("A")), "B", x, dict(name("A"), name("B"), x))
	puts(t, dict(null()), "B", x, dict(null(), name("B"), x))
}

func TestDrop(t *testing.T) { // P11.2
	drops(t, dict(), "A", dict())
	drops(t, three(), "B", dict(name("D"), whole(2), name("F"), whole(3)))
	drops(t, three(), "D", dict(name("B"), whole(1), name("F"), whole(3)))
	drops(t, three(), "F", dict(name("B"), whole(1), name("D"), whole(2)))
	for _, s := range []string{"", "A", "C", "E", "G", "b", "BB"} {
		drops(t, three(), s, three())
	}
	drops(t, dict(name("A"), null()), "A", dict())
	drops(t, dict(name("A"), whole(1), name("A"), whole(2)), "A", dict(name("A"), whole(2)))
	drops(t, dict(name("B"), null(), name("A"), whole(1), name("C"), null(), name("A"), whole(2)), "A", dict(name("B"), null(), name("C"), null(), name("A"), whole(2)))
	drops(t, dict(name("A"), name("B")), "B", dict(name("A"), name("B")))
	drops(t, dict(text("A"), whole(1), name("A"), whole(2), name("B"), whole(3)), "A", dict(text("A"), whole(1), name("B"), whole(3)))
	drops(t, dict(text("A"), whole(1)), "A", dict(text("A"), whole(1)))
	drops(t, dict(with(name("A"), 5), whole(1)), "A", dict())
	drops(t, dict(name("A")), "A", dict())
	drops(t, dict(name("A"), whole(1), name("B")), "B", dict(name("A"), whole(1)))
	drops(t, dict(name("A"), whole(1), name("B")), "A", dict(name("B")))
	drops(t, dict(name("A"), whole(1), name("A")), "A", dict(name("A")))
	drops(t, dict(name("A"), dict(name("A"), null(), name("B"), null())), "B", dict(name("A"), dict(name("A"), null(), name("B"), null())))
	drops(t, with(said(dict(name("A"), whole(1)), "a"), 5), "A", with(said(dict(), "a"), 5))
}

func TestDictOf(t *testing.T) { // P11.4
	for _, x := range []struct{ l, want []api.Value }{
		{nil, nil}, {[]api.Value{}, nil}, {[]api.Value{name("A")}, nil}, {[]api.Value{null()}, nil},
		{[]api.Value{name("A"), whole(1)}, []api.Value{name("A"), whole(1)}},
		{[]api.Value{name("A"), whole(1), name("B")}, []api.Value{name("A"), whole(1)}},
		{[]api.Value{name("A"), whole(1), name("A")}, []api.Value{name("A"), whole(1)}},
		{[]api.Value{name("B"), whole(1), name("A"), whole(2)}, []api.Value{name("A"), whole(2), name("B"), whole(1)}},
		{[]api.Value{name("Type"), name("Page"), name("Kids"), array(), name("Count"), whole(3), name("AB"), null(), name("A"), null()}, []api.Value{name("A"), null(), name("AB"), null(), name("Count"), whole(3), name("Kids"), array(), name("Type"), name("Page")}},
		{[]api.Value{name("A"), whole(1), name("A"), whole(2)}, []api.Value{name("A"), whole(2)}},
		{[]api.Value{name("B"), whole(1), name("A"), whole(2), name("B"), whole(3), name("C"), whole(4), name("B"), whole(5), name("A"), whole(6)}, []api.Value{name("A"), whole(6), name("B"), whole(5), name("C"), whole(4)}},
		{[]api.Value{name("\x80"), null(), name("\x7f"), null(), name(""), null(), name("\xff"), null()}, []api.Value{name(""), null(), name("\x7f"), null(), name("\x80"), null(), name("\xff"), null()}},
		{[]api.Value{text("B"), whole(1), null(), whole(2), said(ref(3), "A"), whole(3), with(holding(name("C"), null()), 7), whole(4)}, []api.Value{name(""), whole(2), name("A"), whole(3), name("B"), whole(1), name("C"), whole(4)}}, // the names' S, whatever else they are
		{[]api.Value{name("A\x00"), whole(1), long(300), whole(2)}, []api.Value{name("A\x00"), whole(1), long(300), whole(2)}},
		{[]api.Value{name("A"), dict(name("B"), array(ref(1)))}, []api.Value{name("A"), dict(name("B"), array(ref(1)))}},
	} {
		if d := value.DictOf(x.l...); !equal(d, dict(x.want...)) {
			t.Errorf("DictOf(%s): %s, want %s", brief(array(x.l...)), brief(d), brief(dict(x.want...)))
		}
	}
	if d := value.DictOf(); value.Check(d) != api.OK || d.Kind != api.Dict || len(d.L) != 0 {
		t.Error(d)
	}
}

func TestDictOfIsPutOneByOne(t *testing.T) { // P11.4
	c := chance{rand.New(rand.NewPCG(11, 5))}
	for range 20000 {
		var l []api.Value
		for range c.IntN(40) {
			l = append(l, c.any(2), c.any(2))
			l[len(l)-2].S = strconv.Itoa(c.IntN(20))
		}
		l = l[:c.IntN(len(l)+1)]
		want := dict()
		for i := 0; i+1 < len(l); i += 2 {
			want = putPlainly(want, l[i].S, l[i+1])
		}
		if d := value.DictOf(l...); !equal(d, want) {
			t.Errorf("DictOf(%s): %s, want %s", brief(array(l...)), brief(d), brief(want))
		}
		few(t)
	}
}

func TestDictsByChance(t *testing.T) { // P11.2
	c := chance{rand.New(rand.NewPCG(11, 6))}
	seen := map[bool]int{}
	for range 100000 {
		v, key, x := c.dict(), c.key(), c.any(1)
		if c.IntN(4) == 0 {
			v = c.any(3)
		}
		y, ok := getPlainly(v, key)
		gets(t, v, key, y, ok)
		puts(t, v, key, x, putPlainly(v, key, x))
		drops(t, v, key, dropPlainly(v, key))
		few(t)
		seen[ok]++
	}
	if seen[true] < 10000 || seen[false] < 10000 {
		t.Error(seen)
	}
}

func TestWhatIsPutIsGot(t *testing.T) { // P11.5
	c := chance{rand.New(rand.NewPCG(11, 7))}
	for range 50000 {
		v, key, x := c.dict(), c.key(), c.any(2)
		v.L = v.L[:len(v.L)/2*2]
		p := value.Put(v, key, x)
		gets(t, p, key, x, true)
		if value.Check(v) == api.OK {
			gets(t, value.Drop(p, key), key, null(), false)
			checks(t, value.Drop(p, key), api.OK)
		}
		few(t)
	}
}

func TestPutOfWhatMayBe(t *testing.T) { // P11.5: a Dict that may be is one behind Put, too, if it is not too deep
	c := chance{rand.New(rand.NewPCG(11, 8))}
	for range 50000 {
		key := []string{"", "A", "AB", "C", "\x80", strings.Repeat("n", 127)}[c.IntN(6)]
		checks(t, value.Put(c.rightDict(3), key, c.right(3)), api.OK)
		few(t)
	}
	for n := range 64 {
		e := api.OK
		if n == 63 {
			e = api.ErrDeep
		}
		checks(t, value.Put(three(), "A", nested(null(), n, api.Array)), e)
		checks(t, value.Put(three(), "D", nested(null(), n, api.Dict)), e)
	}
	checks(t, value.Put(three(), "A\x00", null()), api.ErrName)
	checks(t, value.Put(three(), "A", whole(1<<31)), api.ErrArg)
}

func TestDictsOfMany(t *testing.T) { // P11.2, P11.4, and R1
	var l []api.Value
	const n = 1 << 16
	for i := range n {
		l = append(l, name(strconv.Itoa(n+i*40503%n)), whole(i*40503%n)) // each number once, in no order
	}
	d := value.DictOf(append(l, l...)...)
	checks(t, d, api.OK)
	if len(d.L) != 2*n {
		t.Fatal(len(d.L))
	}
	for _, i := range []int{0, 1, 777, n / 2, n - 1} {
		gets(t, d, strconv.Itoa(n+i), whole(i), true)
		p := value.Put(d, strconv.Itoa(n+i)+"a", null())
		checks(t, p, api.OK)
		if !value.Same(value.Drop(p, strconv.Itoa(n+i)+"a"), d) || value.Same(p, d) {
			t.Error(i)
		}
	}
}

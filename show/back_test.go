package show_test

import (
	"math/rand/v2"
	"slices"
	"strings"
	"testing"

	"catchword/api"
	"catchword/show"
	"catchword/value"
)

func TestIntsAndRefsBehindOneAnother(t *testing.T) { // P13.2: all rows of up to six of them
	of := []api.Value{whole(0), whole(1), ref(1), ref(12), name("R")}
	var put func(l []api.Value)
	put = func(l []api.Value) {
		agrees(t, array(l...))
		if len(l) == 6 {
			return
		}
		for _, v := range of {
			put(append(slices.Clone(l), v))
		}
	}
	put(nil)
}

func TestIntsAndRefsInDicts(t *testing.T) { // P13.2
	of := []api.Value{whole(0), whole(7), ref(7), millionths(0), null(), text("R"), array(whole(7), whole(0)), dict()}
	for _, a := range of {
		for _, b := range of {
			for _, c := range of {
				agrees(t, dict(name("0"), a, name("1"), b, name("R"), c))
				agrees(t, array(a, dict(name("R"), b), c))
				agrees(t, array(array(a, b), c, array(c, a)))
			}
		}
	}
}

// apart asks that two values that may be have forms that are alike only if they are.
func apart(t *testing.T, a, b api.Value) {
	t.Helper()
	s, e := show.Value(a)
	u, f := show.Value(b)
	if e != api.OK || f != api.OK || (s == u) != value.Same(a, b) {
		t.Errorf("%s, %s: %.300q, %v, %.300q, %v", brief(a), brief(b), s, e, u, f)
	}
	few(t)
}

func TestFormsOfOthersAreOthers(t *testing.T) { // P13.2: values that look alike
	var l []api.Value
	for _, s := range []string{"", "0", "1", "1.0", "null", "true", "false", "1 0 R", "[]", "[1]", "<<>>", "/A", "A", "(A)", "<41>", "41", "A ", "A#20", "#41", "\\101", "\\", "\\\\", "(", "\\(", ")", "\n", "\\n", "0a", "\x0a", "\x00", "%", "a", "AB", "A\x01"} {
		l = append(l, text(s))
		if s != "\x00" {
			l = append(l, name(s), dict(name(s), null()), array(name(s)), array(name(s), whole(1)))
		}
	}
	for _, n := range []int{0, 1, 2, 10, 12, 4096} {
		l = append(l, whole(n), whole(-n), millionths(n), millionths(-n), millionths(n*1000000), ref(max(1, n)))
	}
	inner := slices.Clone(l)
	for _, v := range inner {
		l = append(l, array(v), array(array(v)), array(v, v), array(v, null()), dict(name("A"), v), dict(name("B"), v))
	}
	l = append(l, null(), truth(0), truth(1), array(), dict(), array(array()), array(dict()), array(array(), array()), array(whole(1), whole(0), name("R")), array(whole(1), whole(2)), array(array(whole(1)), whole(2)), array(whole(1), array(whole(2))), array(array(whole(1), whole(2))), array(text("a"), text("b")), array(text("a) (b")), array(name("A"), name("B")), array(name("A /B")))
	for i, a := range l {
		for _, b := range l[i:] {
			apart(t, a, b)
		}
	}
}

// changed is a value that may be, in which one Kind, number, byte or element is another one, if that may be.
func (c chance) changed(v api.Value) api.Value {
	v.L = slices.Clone(v.L)
	if n := len(v.L); n > 0 && c.IntN(3) > 0 {
		at := c.IntN(n)
		if v.Kind == api.Dict && at%2 == 0 {
			v.L[at] = name(v.L[at].S + []string{"", "a", " ", "#"}[c.IntN(4)])
		} else {
			v.L[at] = c.changed(v.L[at])
		}
		return v
	}
	switch c.IntN(5) {
	case 0:
		v.Kind = c.IntN(9)
	case 1:
		v.N += []int{-1, 1, 10, 1000000}[c.IntN(4)]
	case 2:
		if at := c.IntN(len(v.S) + 1); at < len(v.S) {
			v.S = v.S[:at] + string([]byte{v.S[at] ^ 1<<c.IntN(8)}) + v.S[at+1:]
		} else {
			v.S += []string{"\x00", " ", "a", "\\", ")"}[c.IntN(5)]
		}
	case 3:
		v.L = slices.Insert(v.L, c.IntN(len(v.L)+1), c.right(1))
	case 4:
		v.L = v.L[:max(0, len(v.L)-1-c.IntN(2))]
	}
	return v
}

func TestFormsOfValuesThatDifferInOneThing(t *testing.T) { // P13.2
	c := chance{rand.New(rand.NewPCG(13, 4))}
	others := map[int]int{}
	for range 100000 {
		a := c.right(3)
		b := c.changed(a)
		if value.Check(b) == api.OK {
			apart(t, a, b)
			if !value.Same(a, b) {
				others[a.Kind]++
			}
		}
	}
	for kind := range 9 {
		if others[kind] < 100 {
			t.Error(others)
		}
	}
}

func TestFormsByChance(t *testing.T) { // P13.2: of each form there is one value
	c := chance{rand.New(rand.NewPCG(13, 5))}
	told := map[string]api.Value{}
	again := 0
	for range 100000 {
		v := c.right(2)
		s, e := show.Value(v)
		if e != api.OK {
			t.Fatal(brief(v), e)
		}
		if x, ok := told[s]; ok && !value.Same(x, v) {
			t.Fatalf("%q is the form of %s and of %s", s, brief(x), brief(v))
		} else if ok {
			again++
		}
		told[s] = v
	}
	if again < 1000 {
		t.Error(again)
	}
}

func TestTextsAndNamesAreOthers(t *testing.T) { // P13.2: each text of up to two bytes, and each name, has a form of its own
	told := map[string]struct{}{}
	n := 0
	tell := func(s string) {
		told[s] = struct{}{}
		n++
	}
	each := func(s string) {
		tell(show.Text(s))
		if f, e := show.Name(s); e == api.OK {
			tell(f)
		} else if !strings.Contains(s, "\x00") {
			t.Errorf("%q: %v", s, e)
		}
	}
	each("")
	for a := range 256 {
		each(string([]byte{byte(a)}))
		for b := range 256 {
			each(string([]byte{byte(a), byte(b)}))
		}
	}
	if len(told) != n || n < 2<<16 {
		t.Error(len(told), n)
	}
}

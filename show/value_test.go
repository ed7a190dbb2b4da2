package show_test

import (
	"fmt"
	"math/rand/v2"
	"strings"
	"testing"

	"catchword/api"
	"catchword/value"
)

func TestExample(t *testing.T) { // P13.1, the chapter's example
	shows(t, dict(name("A"), whole(7)), "<</A 7>>")
}

func TestValuesOfEachKind(t *testing.T) { // P13.1
	shows(t, null(), "null")
	shows(t, truth(0), "false")
	shows(t, truth(1), "true")
	shows(t, whole(7), "7")
	shows(t, millionths(7), "0.000007")
	shows(t, text("seven"), "(seven)")
	shows(t, name("Seven"), "/Seven")
	shows(t, array(whole(7)), "[7]")
	shows(t, ref(7), "7 0 R")
}

func TestNumbers(t *testing.T) { // P13.1: below 0, at both bounds, with and without a whole part
	for n, s := range map[int]string{0: "0", 1: "1", -1: "-1", 10: "10", -10: "-10", 1000000: "1000000", most: "2147483647", most - 1: "2147483646", -most: "-2147483647", 1 - most: "-2147483646"} {
		shows(t, whole(n), s)
		shows(t, array(whole(n), whole(n)), "["+s+" "+s+"]")
		shows(t, dict(name("N"), whole(n)), "<</N "+s+">>")
	}
	for n, s := range map[int]string{0: "0.0", 1: "0.000001", -1: "-0.000001", 500000: "0.5", -250000: "-0.25", 999999: "0.999999", 1000000: "1.0", -1000000: "-1.0", 1000001: "1.000001", -1500000: "-1.5", 120034000: "120.034", most: "2147.483647", mostReal: "2147483647.0", mostReal - 1: "2147483646.999999", -mostReal: "-2147483647.0", 1 - mostReal: "-2147483646.999999"} {
		shows(t, millionths(n), s)
		shows(t, array(millionths(n), millionths(n)), "["+s+" "+s+"]")
		shows(t, dict(name("N"), millionths(n)), "<</N "+s+">>")
	}
}

func TestReferences(t *testing.T) { // P13.1: all of them, the first and the last object's too
	shows(t, ref(1), "1 0 R")
	shows(t, ref(4096), "4096 0 R")
	for n := 1; n <= api.MaxObjects; n++ {
		s := fmt.Sprint(n) + " 0 R"
		shows(t, ref(n), s)
		shows(t, array(ref(n), whole(n), ref(n)), "["+s+" "+fmt.Sprint(n)+" "+s+"]")
	}
	refuses(t, ref(0), api.ErrArg)
	refuses(t, ref(4097), api.ErrArg)
}

func TestArrays(t *testing.T) { // P13.1: a blank between, and none elsewhere
	shows(t, array(), "[]")
	shows(t, api.Value{Kind: api.Array, L: []api.Value{}}, "[]") // no list and an empty one are one
	shows(t, array(null()), "[null]")
	shows(t, array(whole(1), array(), ref(2)), "[1 [] 2 0 R]")
	shows(t, array(array(), array()), "[[] []]")
	shows(t, array(array(array())), "[[[]]]")
	shows(t, array(text(""), text("\n"), name(""), name("A"), truth(1)), "[() <0a> / /A true]")
	shows(t, array(name(""), name("")), "[/ /]")
	shows(t, array(dict(), dict()), "[<<>> <<>>]")
	shows(t, array(text("a"), text("b")), "[(a) (b)]")
	shows(t, array(millionths(500000), millionths(500000)), "[0.5 0.5]")
	shows(t, array(array(whole(1), whole(2)), array(whole(3))), "[[1 2] [3]]")
}

func TestDicts(t *testing.T) { // P13.1: a blank between a name and its value, and between pairs
	shows(t, dict(), "<<>>")
	shows(t, api.Value{Kind: api.Dict, L: []api.Value{}}, "<<>>")
	shows(t, dict(name(""), null()), "<</ null>>")
	shows(t, dict(name("A"), whole(7), name("B"), dict()), "<</A 7 /B <<>>>>")
	shows(t, dict(name("A"), array(), name("B"), text(""), name("C"), name("")), "<</A [] /B () /C />>")
	shows(t, dict(name("A"), name("B"), name("B"), name("A")), "<</A /B /B /A>>")
	shows(t, dict(name(" "), null(), name("#"), truth(0), name("A"), ref(1), name("AB"), ref(2), name("\xff"), text("\xff")), "<</#20 null /#23 false /A 1 0 R /AB 2 0 R /#ff <ff>>>")
	shows(t, dict(name("A"), dict(name("A"), dict(name("A"), dict()))), "<</A <</A <</A <<>>>>>>>>")
	shows(t, dict(name("A"), array(dict(name("B"), array(ref(1), ref(2)))), name("C"), text("(")), "<</A [<</B [1 0 R 2 0 R]>>] /C (\\()>>")
	shows(t, value.DictOf(name("B"), value.DictOf(), name("A"), whole(7)), "<</A 7 /B <<>>>>")
}

func TestDepths(t *testing.T) { // P13.1: as deep as may be, and one deeper
	for _, x := range []struct {
		kind             int
		ahead, behind, s string
		v                api.Value
	}{
		{api.Array, "[", "]", "null", null()}, {api.Array, "[", "]", "[]", array()}, {api.Array, "[", "]", "<<>>", dict()}, {api.Array, "[", "]", "(a)", text("a")}, {api.Array, "[", "]", "1 0 R", ref(1)},
		{api.Dict, "<</K ", ">>", "null", null()}, {api.Dict, "<</K ", ">>", "[]", array()}, {api.Dict, "<</K ", ">>", "<<>>", dict()}, {api.Dict, "<</K ", ">>", "/", name("")},
	} {
		for n := range 64 { // with the innermost one n + 1 deep
			shows(t, nested(x.v, n, x.kind), strings.Repeat(x.ahead, n)+x.s+strings.Repeat(x.behind, n))
		}
		for _, n := range []int{64, 65, 66, 128, 1 << 12, 1 << 16} {
			refuses(t, nested(x.v, n, x.kind), api.ErrDeep)
			refuses(t, array(whole(1), nested(x.v, n-1, x.kind)), api.ErrDeep)
			refuses(t, dict(name("A"), null(), name("B"), nested(x.v, n-1, x.kind)), api.ErrDeep)
		}
	}
	for n := range 64 {
		agrees(t, nested(ref(1), n, api.Array, api.Dict))
		agrees(t, nested(dict(name("A"), null()), n/2, api.Dict, api.Dict, api.Array))
	}
	refuses(t, nested(ref(1), 64, api.Array, api.Dict), api.ErrDeep)
	refuses(t, nested(ref(0), 64, api.Dict, api.Array), api.ErrDeep) // ahead of what is wrong within
	refuses(t, nested(ref(0), 63, api.Dict, api.Array), api.ErrArg)
}

func TestManyInOne(t *testing.T) { // P13.1, and R1
	var l, d []api.Value
	for i := range 1 << 16 {
		l = append(l, whole(i))
		d = append(d, name(fmt.Sprintf("N%05d", i)), ref(1+i%api.MaxObjects))
	}
	agrees(t, array(l...))
	agrees(t, dict(d...))
	refuses(t, array(append(l, ref(0))...), api.ErrArg)
	refuses(t, dict(append(d, name("N00000"), null())...), api.ErrKey)
}

func TestManyValues(t *testing.T) { // P13.1, P13.2: by chance
	c := chance{rand.New(rand.NewPCG(13, 1))}
	kinds := map[int]int{}
	for range 50000 {
		v := c.right(4)
		agrees(t, v)
		kinds[v.Kind]++
	}
	for kind := range 9 {
		if kinds[kind] < 1000 {
			t.Error(kinds)
		}
	}
}

package parse_test

import (
	"strings"
	"testing"

	"catchword/api"
)

// nest is a text within so many others, of those kinds in turn from the outermost on.
func nest(s string, n int, kinds string) string {
	var open, shut string
	for i := range n {
		if kinds[i%len(kinds)] == '[' {
			open, shut = open+"[", "]"+shut
		} else {
			open, shut = open+"<</K ", ">>"+shut
		}
	}
	return open + s + shut
}

// nested is what nest of such a value is.
func nested(v api.Value, n int, kinds string) api.Value {
	for i := n - 1; i >= 0; i-- {
		if kinds[i%len(kinds)] == '[' {
			v = array(v)
		} else {
			v = dict(name("K"), v)
		}
	}
	return v
}

func TestDeep(t *testing.T) { // P12.1: 64 in one another may be, with nothing in the innermost
	inner := map[string]api.Value{"[]": array(), "<<>>": dict(), "1": whole(1), "1 0 R": ref(1), "/N": name("N"), "(x)": text("x"), "null": null(), ".5": millionths(500000), "true": truth(1)}
	for _, kinds := range []string{"[", "<", "[<", "<[", "[[<"} {
		for s, v := range inner {
			for _, n := range []int{0, 1, 2, 31, 61, 62, 63} {
				reads(t, nest(s, n, kinds)+"]", 0, false, nested(v, n, kinds), len(nest(s, n, kinds)), api.OK)
			}
			for _, n := range []int{64, 65, 66, 67, 100, 127, 128, 129, 1000} {
				reads(t, nest(s, n, kinds), 0, true, null(), 0, api.ErrDeep)
				reads(t, nest(s, n, kinds)+" ", 0, false, null(), 0, api.ErrDeep)
			}
			few(t)
		}
		for n := range 70 {
			for s := range inner {
				agrees(t, nest(s, n, kinds), 0)
				agrees(t, nest("1 2 "+s, n, kinds), 0)
				agrees(t, nest(s+"/L "+s, n, kinds), 0)
			}
		}
	}
	fails(t, strings.Repeat("[", 1<<12), api.ErrDeep)
	fails(t, strings.Repeat("[", 65), api.ErrDeep)
	fails(t, strings.Repeat("[", 64)+"<<", api.ErrDeep)
	fails(t, strings.Repeat("<</K ", 63)+"[<<", api.ErrDeep)
	cut(t, strings.Repeat("[", 64))
	cut(t, strings.Repeat("<</K ", 63)+"<<")
	reads(t, strings.Repeat("[", 1<<20), 0, true, null(), 0, api.ErrDeep)
}

func TestNamesThatAreTooDeep(t *testing.T) { // P12.1: a Name in a name's place is a value within the others, too
	for _, s := range []string{strings.Repeat("[", 63) + "<<", strings.Repeat("<</K ", 63) + "<<"} {
		fails(t, s+"/N ", api.ErrDeep)
		fails(t, s+"/N>>", api.ErrDeep)
		fails(t, s+"/N 1>>", api.ErrDeep)
		fails(t, s+"/N[", api.ErrDeep)
		fails(t, s+"/N)", api.ErrDeep)
		cut(t, s)
		reads(t, s+"/N", 0, false, null(), 0, api.ErrMore)
	}
}

func TestDeepSiblings(t *testing.T) { // P12.1: what is closed does not count
	pair := nest("", 63, "[")
	reads(t, "["+strings.Repeat(pair, 100)+"]", 0, true, array(many(nested(array(), 62, "["), 100)...), 100*len(pair)+2, api.OK)
	reads(t, "["+strings.Repeat(pair, 100)+strings.Repeat("[", 64), 0, true, null(), 0, api.ErrDeep)
	dicts := nest("<<>>", 62, "<")
	reads(t, "["+strings.Repeat(dicts, 100)+"]", 0, true, array(many(nested(dict(), 62, "<"), 100)...), 100*len(dicts)+2, api.OK)
	reads(t, "["+strings.Repeat(nest("1", 63, "[")+" ", 2), 0, true, null(), 0, api.ErrDeep)
}

// many is a value so many times.
func many(v api.Value, n int) []api.Value {
	var l []api.Value
	for range n {
		l = append(l, v)
	}
	return l
}

func TestNamesTwice(t *testing.T) { // P12.1: told where the Dict is closed
	for _, s := range []string{"/A 1/A 2", "/A 1/A 1", "/A 1/A 2/B 3", "/A 1/B 2/A 3", "/B 1/A 2/A 3", "/B 1/A 2/B 3", "/A 1/B 2/B 3", "/C 1/A 2/B 3/C 4/D 5", "/A 1/#41 2", "/ 1/ 2", "/A/A/A/A", "/A[]/A<<>>", "/A null/A null", "/A 1/A 1/A 1"} {
		fails(t, "<<"+s+">>", api.ErrKey)
		fails(t, "[<<"+s+">>]", api.ErrKey)
		fails(t, "[1<<"+s+">>)", api.ErrKey) // ahead of what stands behind
		fails(t, "<</A<<"+s+">>/B 1>>", api.ErrKey)
		fails(t, "<</K 1/K<<"+s+">>", api.ErrKey)
		fails(t, "<</K 1/L<</A 1>>/K<</A 1>>>>", api.ErrKey)
		cut(t, "<<"+s)
		cut(t, "<<"+s+"/Z[")
		cut(t, "[<<"+s+"/Z[]")
		fails(t, "<<"+s+"]", api.ErrForm)
		fails(t, "<<"+s+" )", api.ErrForm)
		fails(t, "<<"+s+"/A>>", api.ErrForm)
		fails(t, "<<"+s+"/Z 0 0 R>>", api.ErrRef)
	}
	stands(t, "<</A<</A 1>>/B<</A 1>>>>", dict(name("A"), dict(name("A"), whole(1)), name("B"), dict(name("A"), whole(1))))
	stands(t, "<</A 1/a 2/AA 3>>", dict(name("A"), whole(1), name("AA"), whole(3), name("a"), whole(2)))
	stands(t, "<</A/B/B/A>>", dict(name("A"), name("B"), name("B"), name("A")))
}

func TestNamesWithoutValues(t *testing.T) { // P12.1
	for _, s := range []string{"<</A>>", "<</A 1/B>>", "<</A/B/C>>", "<</A 1/A>>", "[<</A>>]", "<</A<</B>>/C 1>>", "<</ >>", "<</A%c\n>>"} {
		fails(t, s, api.ErrForm)
	}
}

func TestOthersInNamesPlaces(t *testing.T) { // P12.1: a value of each Kind, and what opens one at once
	for _, s := range []string{"null", "true", "false", "7", "0", "-1", "4097", ".5", "(A)", "<41>", "1 0 R", "[]", "<<>>", "[1]", "<</A 1>>", "[/A]"} {
		for _, ahead := range []string{"<<", "<</A 1", "<</A/B", "<</A[]/B<<>>", "[<<", "<</A<<"} {
			fails(t, ahead+" "+s+" 1>>", api.ErrForm)
			fails(t, ahead+" "+s+">>", api.ErrForm)
			fails(t, ahead+" "+s+"/A 1>>", api.ErrForm)
			fails(t, ahead+" "+s+" )", api.ErrForm)
		}
	}
	for _, s := range []string{"[", "<<", "[1", "[)", "<<)", "[>>", "<<]", "[[", "<<1 ", "[0 0 R", "[/#0 "} { // whatever is in it
		fails(t, "<<"+s+" 0 0 R ", api.ErrForm)
		fails(t, "<</A 1"+s+" 0 0 R ", api.ErrForm)
	}
	for _, s := range []string{"<<[", "<<<<", "<</A 1[", "<</A 1 <<", "[<<[", "<<%c\n["} {
		reads(t, s, 0, false, null(), 0, api.ErrForm)
		reads(t, s, 0, true, null(), 0, api.ErrForm)
	}
	fails(t, strings.Repeat("[", 63)+"<<[", api.ErrForm) // ahead of ErrDeep
	fails(t, strings.Repeat("[", 63)+"<<<<", api.ErrForm)
	fails(t, strings.Repeat("[", 63)+"<<(x)", api.ErrForm)
}

func TestIntsInNamesPlaces(t *testing.T) { // P12.1: they are asked for what they are first, as anywhere else
	for _, s := range []string{"<<", "<</A 1/B 2 ", "[<<"} {
		fails(t, s+"0 0 R ", api.ErrRef)
		fails(t, s+"1 1 R ", api.ErrRef)
		fails(t, s+"1 0 R ", api.ErrForm)
		fails(t, s+"1 0 obj ", api.ErrForm)
		fails(t, s+"1 )", api.ErrForm)
		for _, more := range []string{"1", "1 ", "1 0", "1 0 ", "1 0 R", "1 (", "1 0 (", "1 0 %"} {
			reads(t, s+more, 0, false, null(), 0, api.ErrMore)
			reads(t, s+more, 0, true, null(), 0, api.ErrForm)
		}
	}
	deep := strings.Repeat("[", 64)
	fails(t, deep+"0 0 R ", api.ErrRef)
	fails(t, deep+"1 0 R ", api.ErrDeep)
	fails(t, deep+"1 ]", api.ErrDeep)
	fails(t, deep+"1 )", api.ErrDeep)
	reads(t, deep+"1 ", 0, false, null(), 0, api.ErrMore)
	reads(t, deep+"1 ", 0, true, null(), 0, api.ErrDeep)
}

func TestWhatClosesAnother(t *testing.T) { // P12.1
	for _, s := range []string{"]", ">>", "[>>", "<<]", "[[]>>", "<</A[>>]", "[<<]>>", "<</A 1]", "<</A]", "<</A 1/B]", "[1>>", "[[1>>]", "<</A<<]>>>>"} {
		fails(t, s, api.ErrForm)
	}
	stands(t, "<<>>", dict()) // what closes nothing behind it is not asked for
	wholes(t, "<<>>]", null(), api.ErrForm)
	wholes(t, "[]>>", null(), api.ErrForm)
}

func TestOtherWords(t *testing.T) { // P12.1: words that are none of the three
	for _, s := range []string{"R", "obj", "endobj", "stream", "True", "TRUE", "tru", "truee", "true1", "nul", "nulll", "Null", "False", "fals", "falsey", "n", "f", "xref", "#", "\\", "'", "\x80", "true#20", "tr#75e", "null,", "\"null\""} {
		fails(t, s, api.ErrForm)
		fails(t, "["+s+"]", api.ErrForm)
		fails(t, "[1 "+s+" ", api.ErrForm)
		fails(t, "<<"+s+" 1>>", api.ErrForm)
		fails(t, "<</A "+s+">>", api.ErrForm)
		fails(t, strings.Repeat("[", 64)+s+" ", api.ErrForm)
		reads(t, s, 0, false, null(), 0, api.ErrMore)
	}
	for _, s := range []string{"true", "false", "null"} {
		reads(t, s, 0, false, null(), 0, api.ErrMore)
		fails(t, strings.Repeat("[", 64)+s+" ", api.ErrDeep)
	}
}

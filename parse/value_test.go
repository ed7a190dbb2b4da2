package parse_test

import (
	"math/rand/v2"
	"strings"
	"testing"

	"catchword/api"
	"catchword/parse"
)

// ones are texts that are a value of each Kind, of which none is an Int at its end.
func ones() map[string]api.Value {
	return map[string]api.Value{
		"null": null(), "true": truth(1), "false": truth(0), ".5": millionths(500000), "-7.25": millionths(-7250000), "1.0": millionths(1000000), "()": text(""), "(a(b)\\)c)": text("a(b))c"), "<41 4>": text("A@"), "/N": name("N"), "/": name(""), "/A#42c": name("ABc"), "/R": name("R"), "/true": name("true"),
		"3 0 R": ref(3), "1 0 R": ref(1), "4096\n0%c\nR": ref(4096),
		"[]": array(), "[ ]": array(), "[%]\n]": array(), "<<>>": dict(), "<< >>": dict(), "<<%>>\r>>": dict(),
		"[1]": array(whole(1)), "[1 2 0 R]": array(whole(1), ref(2)), "[(a)/B]": array(text("a"), name("B")), "<</A 1>>": dict(name("A"), whole(1)),
	}
}

// ints are texts that are an Int.
func ints() map[string]api.Value {
	return map[string]api.Value{"7": whole(7), "0": whole(0), "-17": whole(-17), "+5": whole(5), "4096": whole(4096), "4097": whole(4097), "2147483647": whole(1<<31 - 1), "-2147483647": whole(1 - 1<<31), "007": whole(7), "-0": whole(0)}
}

func TestExamples(t *testing.T) { // P12.1, the chapter's examples
	fails(t, "[1 2 R 3]", api.ErrRef)
	stands(t, "[1 0 R]", array(ref(1)))
	stands(t, "[1 0 R 3]", array(ref(1), whole(3)))
}

func TestEachKind(t *testing.T) { // P12.1: from the start, from a place within, and with others behind
	for s, v := range ones() {
		stands(t, s, v)
		reads(t, s+" 1 ", 0, false, v, len(s), api.OK)
		reads(t, s+" 1 0 R", 0, true, v, len(s), api.OK)
	}
	for s, v := range ints() {
		stands(t, s, v)
	}
	for s := range ones() {
		if strings.ContainsAny(s[len(s)-1:], "]>)") { // its end is seen
			reads(t, s, 0, false, ones()[s], len(s), api.OK)
		} else {
			reads(t, s, 0, false, null(), 0, api.ErrMore)
		}
	}
}

func TestOnesInOthers(t *testing.T) { // P12.1
	l := ones()
	for s, v := range ints() {
		l[s] = v
	}
	for s, v := range l {
		stands(t, "["+s+"]", array(v))
		stands(t, "[ "+s+" ]", array(v))
		stands(t, "[ null "+s+" [ ]]", array(null(), v, array()))
		stands(t, "<</K "+s+">>", dict(name("K"), v))
		stands(t, "<</K%c\n"+s+" /L[]>>", dict(name("K"), v, name("L"), array()))
		stands(t, "[[["+s+"]]]", array(array(array(v))))
		stands(t, "<</K[<</L "+s+">>]>>", dict(name("K"), array(dict(name("L"), v))))
		for u, x := range l {
			reads(t, "["+s+" "+u+"]", 0, false, array(v, x), len(s)+len(u)+3, api.OK)
			reads(t, "<</A "+s+" /B "+u+">>", 0, true, dict(name("A"), v, name("B"), x), len(s)+len(u)+11, api.OK)
			reads(t, "<</B "+s+" /A "+u+">>", 0, true, dict(name("A"), x, name("B"), v), len(s)+len(u)+11, api.OK)
			few(t)
		}
	}
}

func TestArraysAndDicts(t *testing.T) { // P12.1
	for s, v := range map[string]api.Value{
		"[[][]]": array(array(), array()), "[<<>><<>>]": array(dict(), dict()), "[[]<<>>[[]]]": array(array(), dict(), array(array())), "[[1][2 [3]]4]": array(array(whole(1)), array(whole(2), array(whole(3))), whole(4)),
		"<</A[]/B<<>>>>": dict(name("A"), array(), name("B"), dict()), "<</A<</A<</A[]>>>>>>": dict(name("A"), dict(name("A"), dict(name("A"), array()))), "<</A/B/C/D>>": dict(name("A"), name("B"), name("C"), name("D")), "<</A/A>>": dict(name("A"), name("A")), "<</A/B/B/A>>": dict(name("A"), name("B"), name("B"), name("A")),
		"[/A/A 1 1]": array(name("A"), name("A"), whole(1), whole(1)), "[<</A 1>><</A 2>>]": array(dict(name("A"), whole(1)), dict(name("A"), whole(2))), "<</A<</B 1>>/B<</A 2>>>>": dict(name("A"), dict(name("B"), whole(1)), name("B"), dict(name("A"), whole(2))),
		"<</Kids[3 0 R 4 0 R]/Count 2/Type/Pages>>":              dict(name("Count"), whole(2), name("Kids"), array(ref(3), ref(4)), name("Type"), name("Pages")),
		"<</A null/B true/C false/D(x)/E<41>/F .5/G/H/I 1 0 R>>": dict(name("A"), null(), name("B"), truth(1), name("C"), truth(0), name("D"), text("x"), name("E"), text("A"), name("F"), millionths(500000), name("G"), name("H"), name("I"), ref(1)),
		"[null true false]": array(null(), truth(1), truth(0)),
	} {
		stands(t, s, v)
	}
}

func TestNamesInAnyOrder(t *testing.T) { // P12.1: a Dict's names stand in order, by bytes
	r := rand.New(rand.NewPCG(12, 1))
	keys := []string{"", "#01", "A", "A#20", "A#ff", "AA", "AB", "B", "Z", "_", "a", "aa", "b", "~", "#7f", "#80", "#ff"}
	is := []string{"", "\x01", "A", "A ", "A\xff", "AA", "AB", "B", "Z", "_", "a", "aa", "b", "~", "\x7f", "\x80", "\xff"}
	at := make([]int, len(keys))
	order := []int{0, 1, 2, 3, 5, 6, 4, 7, 8, 9, 10, 11, 12, 13, 14, 15, 16}
	for range 500 {
		for i, k := range r.Perm(len(keys)) {
			at[i] = k
		}
		s, want := "<<", dict()
		for _, k := range at {
			s += "/" + keys[k] + "[" + strings.Repeat("1 ", k) + "]"
		}
		for _, k := range order {
			v := array()
			for range k {
				v.L = append(v.L, whole(1))
			}
			want.L = append(want.L, name(is[k]), v)
		}
		reads(t, s+">>", 0, false, want, len(s)+2, api.OK)
		reads(t, "[ "+s+">>]", 0, true, array(want), len(s)+5, api.OK)
		few(t)
	}
}

func TestValuesOfAllShortTexts(t *testing.T) { // P12.1
	seen := map[api.Errno]int{}
	each := func(s string) { seen[agrees(t, s, 0)]++ }
	texts([]string{"1 ", "0 ", "R ", "R", "[", "]", "<<", ">>", "/A ", "/B", "(", "true ", "w", ")"}, 5, each)
	texts([]string{"/A ", "/B ", "1 ", "[", "]", "<<", ">>"}, 6, func(s string) { each("<<" + s) })
	texts([]string{"1 ", "0 ", "-1 ", "4096 ", "4097 ", "R ", ".5 ", "(", ")", "1"}, 5, func(s string) { each("1 " + s) })
	texts([]string{"/A ", "/B ", "/A 1", "/#41 2 ", ">>", "<<", "/C<<"}, 6, func(s string) { each("<<" + s + ">>") })
	for _, e := range []api.Errno{api.OK, api.ErrCut, api.ErrForm, api.ErrKey, api.ErrRef} {
		if seen[e] < 1000 {
			t.Error(seen)
		}
	}
}

func TestValuesOfManyTexts(t *testing.T) { // P12.1: texts that are values, or nearly, by chance
	r := rand.New(rand.NewPCG(12, 2))
	seen := map[api.Errno]int{}
	bad := append(pieces(), wrongPieces()...)
	for i := range 200000 {
		of := pieces()
		if i%2 == 0 {
			of = bad
		}
		var s strings.Builder
		s.WriteString([]string{"", "[", "<<", "<</A[", "[<</K "}[r.IntN(5)])
		for range r.IntN(12) {
			s.WriteString(of[r.IntN(len(of))])
		}
		s.WriteString([]string{"", "]", ">>", "]>>", ">>]", "]]>>"}[r.IntN(6)])
		seen[agrees(t, s.String(), 0)]++
		agrees(t, s.String(), r.IntN(s.Len()+1))
	}
	for _, e := range []api.Errno{api.OK, api.ErrRange, api.ErrCut, api.ErrForm, api.ErrKey, api.ErrName, api.ErrRef} {
		if seen[e] < 100 {
			t.Error(seen)
		}
	}
}

// grow is a text by chance, and the value that it is.
func grow(r *rand.Rand, deep int) (string, api.Value) {
	n := r.IntN(9)
	if deep == 0 {
		n = r.IntN(7)
	}
	gap := func() string { return []string{" ", "\n", " %]>>)\n", "\x00\t\r\f"}[r.IntN(4)] }
	switch n {
	case 7:
		s, v := "["+gap(), array()
		for range r.IntN(5) {
			u, x := grow(r, deep-1)
			s, v.L = s+u+gap(), append(v.L, x)
			if x.Kind == api.Int { // so that no two Ints stand ahead of what a reference could be taken for
				s += "() "
				v.L = append(v.L, text(""))
			}
		}
		return s + "]", v
	case 8:
		s, v := "<<", dict()
		for _, k := range []string{"A", "B", "C", "D"} {
			if r.IntN(2) == 0 {
				u, x := grow(r, deep-1)
				v.L = append(v.L, name(k), x)
				s = []string{s + "/" + k + gap() + u + gap(), "<</" + k + gap() + u + gap() + s[2:]}[r.IntN(2)]
			}
		}
		return s + ">>", v
	}
	s := []string{"null", "true", "false", "12", "-.5", "(a\\(b)", "/N", "9 0 R", "<4>", "4097"}[r.IntN(10)]
	return s, map[string]api.Value{"null": null(), "true": truth(1), "false": truth(0), "12": whole(12), "-.5": millionths(-500000), "(a\\(b)": text("a(b"), "/N": name("N"), "9 0 R": ref(9), "<4>": text("@"), "4097": whole(4097)}[s]
}

func TestValuesAreWhatTheyWereMadeOf(t *testing.T) { // P12.1, P12.2
	r := rand.New(rand.NewPCG(12, 3))
	for range 20000 {
		s, v := grow(r, 5)
		reads(t, s, 0, true, v, len(s), api.OK)
		reads(t, " "+s+" ]", 0, false, v, len(s)+1, api.OK)
		wholes(t, s+" ", v, api.OK)
		few(t)
	}
}

func TestValuesOfMuch(t *testing.T) { // P12.1, and R1
	n := 1 << 16
	for _, s := range []string{"1 ", "null ", "[]", "(x)", "1 0 R ", "/N", "<</A 1>>"} {
		v, to, e := parse.Value([]byte("["+strings.Repeat(s, n)+"]"), 0, false)
		if e != api.OK || to != n*len(s)+2 || len(v.L) != n {
			t.Errorf("an Array of many %q: %d, %d, %v", s, len(v.L), to, e)
		}
	}
	var s strings.Builder
	for i := range n {
		s.WriteString("/N" + string([]byte{'a' + byte(i>>12), 'a' + byte(i>>8&15), 'a' + byte(i>>4&15), 'a' + byte(i&15)}))
		s.WriteString(" 1 0 R ")
	}
	v, _, e := parse.Value([]byte("<<"+s.String()+">>"), 0, true)
	if e != api.OK || len(v.L) != 2*n || v.L[0].S != "Naaaa" || v.L[2*n-2].S != "Npppp" {
		t.Error(len(v.L), e)
	}
	reads(t, "<<"+s.String()+"/Ngggg 1>>", 0, true, null(), 0, api.ErrKey)
	long := strings.Repeat("x", 1<<20)
	reads(t, "1 0 ("+long+")", 0, false, whole(1), 1, api.OK)
	reads(t, "[("+long+")]", 0, false, array(text(long)), len(long)+4, api.OK)
	fails(t, long[:1000], api.ErrForm)
}

package parse_test

import (
	"math"
	"strings"
	"testing"

	"catchword/api"
	"catchword/parse"
)

func TestWrongPlaces(t *testing.T) { // P12.1, P12.2: ErrArg ahead of all else
	for _, s := range []string{"", " ", "1", "obj", "[1 2]", "("} {
		for _, at := range []int{-1, -2, math.MinInt, math.MinInt + 1, len(s) + 1, len(s) + 2, 100, 1 << 32, math.MaxInt} {
			for _, last := range []bool{true, false} {
				reads(t, s, at, last, null(), 0, api.ErrArg)
				numbers(t, s, at, last, 0, 0, api.ErrArg)
				says(t, s, at, last, "obj", 0, api.ErrArg)
			}
		}
		for at := range len(s) + 1 {
			agrees(t, s, at)
		}
	}
	if v, to, e := parse.Value(nil, 1, true); v.Kind != 0 || to != 0 || e != api.ErrArg {
		t.Error(v, to, e)
	}
}

func TestNothing(t *testing.T) { // P12.1, P12.2: the token End
	for _, s := range []string{"", " ", "\x00\t\n\f\r ", "%", "% [1]", "  %a\n "} {
		cut(t, s+" ")
		reads(t, s, 0, true, null(), 0, api.ErrCut)
		reads(t, s, 0, false, null(), 0, api.ErrMore)
		reads(t, "[1]"+s, 3+len(s), true, null(), 0, api.ErrCut)
		reads(t, "[1]"+s, 3+len(s), false, null(), 0, api.ErrMore)
		wholes(t, s, null(), api.ErrCut)
		numbers(t, s, 0, true, 0, 0, api.ErrCut)
		numbers(t, s, 0, false, 0, 0, api.ErrMore)
		says(t, s, 0, true, "obj", 0, api.ErrCut)
		says(t, s, 0, false, "obj", 0, api.ErrMore)
		says(t, s, 0, true, "", 0, api.ErrCut)
	}
	if v, to, e := parse.Value(nil, 0, true); v.Kind != 0 || to != 0 || e != api.ErrCut {
		t.Error(v, to, e)
	}
	if v, e := parse.Whole(nil); v.Kind != 0 || e != api.ErrCut {
		t.Error(v, e)
	}
}

func TestTheEndAtEachPlace(t *testing.T) { // P12.1
	for _, s := range []string{"[ [ ] ]", "[(a(b)\\)c)<41 4>/N 1 0 R]", "[1 [2 [3 [4]]]]", "[1 2 3 0 R 5.5 /A 7]"} { // each of its beginnings is one of values
		for n := range len(s) {
			cut(t, s[:n])
		}
		reads(t, s, 0, false, arrayOf(s), len(s), api.OK)
	}
	for _, s := range []string{"<</A 1/B[2 0 R]/C<</D(x)>>/E null/F<41>>>", "[true false null]", "<</Kids[3 0 R]/Count 1/#41#42 -.5>>", "[/A#42 1]", "<<%c\n/A%d\r1%e\n>>"} {
		for n := range len(s) {
			for _, a := range ahead() {
				reads(t, a+s[:n], len(a), false, null(), 0, api.ErrMore)
			}
			if e := agrees(t, s[:n], 0); e == api.OK {
				t.Errorf("%q is a value", s[:n])
			}
		}
		if e := agrees(t, s, 0); e != api.OK {
			t.Errorf("%q: %v", s, e)
		}
	}
	for _, s := range []string{"[", "[1", "[1 ", "[1 0", "[1 0 ", "[1 0 R", "[1 0 R ", "[]"[:1], "<<", "<< ", "<</A", "<</A ", "<</A 1", "<</A 1 0 R", "<</A(x)", "<</A(x", "<</A 1/B", "<</A[", "<</A[]", "<</A<<", "<</A<<>>", "[<</A 1", "[<</A 1>>", "(", "(x", "<", "<4", "[(", "[<", "[<4", "[null", "[true ", "[/A", "[.5"} {
		cut(t, s)
	}
	for s, e := range map[string]api.Errno{"<</A 1>": api.ErrForm, "[tru": api.ErrForm, "[/#4": api.ErrName, "<</#": api.ErrName, "[-": api.ErrForm, "tr": api.ErrForm, "/#": api.ErrName, ">": api.ErrForm, "[>": api.ErrForm, "<</A 1 0": api.ErrForm, "<</A 1 0 ": api.ErrForm} { // the last token is another, or none, or stands in a name's place
		reads(t, s, 0, true, null(), 0, e)
		reads(t, s, 0, false, null(), 0, api.ErrMore)
	}
}

// arrayOf is the value of a text by the chapter's words.
func arrayOf(s string) api.Value {
	v, _, _ := plainly([]byte(s), 0, true)
	return v
}

func TestErrorsOfTokens(t *testing.T) { // P12.1: the first one
	wrong := map[string]api.Errno{")": api.ErrForm, "}": api.ErrForm, "{": api.ErrForm, "> ": api.ErrForm, "<g": api.ErrForm, "1.2.3 ": api.ErrForm, "4000000000 ": api.ErrRange, "-4000000000 ": api.ErrRange, "/#0 ": api.ErrName, "/A#00 ": api.ErrName, "/" + strings.Repeat("n", 128) + " ": api.ErrName}
	for s, e := range wrong {
		for _, a := range []string{"", "[", "[1 ", "[1 2 ", "[1 0 R ", "[[]", "[(x)", "<<", "<</A ", "<</A 1 ", "<</A 1/B[", strings.Repeat("[", 64), strings.Repeat("[", 63) + "<<", "<</A 1/A 2 "} {
			fails(t, a+s, e)
			for u := range wrong {
				reads(t, a+s+u, 0, true, null(), 0, e)
				reads(t, a+s+u, 0, false, null(), 0, e)
			}
		}
	}
}

func TestErrorsInTheirOrder(t *testing.T) { // P12.1: as the tokens are asked
	for s, e := range map[string]api.Errno{
		"[1 2 R )": api.ErrRef, "[) 1 2 R ": api.ErrForm, "[obj 1 2 R ": api.ErrForm, "[1 2 R obj ": api.ErrRef, "[5000 0 R>>": api.ErrRef, "[>> 5000 0 R ": api.ErrForm, "<</A 1/A 2>>)": api.ErrKey, "<</A ) /A 2>>": api.ErrForm, "<</A 1/A /#0 >>": api.ErrName, "[4000000000 ) ": api.ErrRange, "[) 4000000000 ": api.ErrForm, "<</A 0 0 R/A 1>>": api.ErrRef, "<</A 1/A 0 0 R>>": api.ErrRef,
		"<</A 1/A 2>> 0 0 R ": api.ErrKey, strings.Repeat("[", 65) + ")": api.ErrDeep, strings.Repeat("[", 64) + ") [": api.ErrForm, strings.Repeat("[", 64) + "/#0 ": api.ErrName, strings.Repeat("[", 64) + ">>": api.ErrForm, strings.Repeat("[", 64) + "1 2 R ": api.ErrRef, strings.Repeat("[", 64) + "obj ": api.ErrForm,
		"<</A 1/A 2 obj ": api.ErrForm, "[<</A 1/A 2>> obj ": api.ErrKey, "[<</A 1/A 2>>>>": api.ErrKey, "<<7 8 R ": api.ErrRef, "<<7 0 R 0 0 R ": api.ErrForm, "<</A<</B 1/B 1>>/A 1>>": api.ErrKey, "<</A<</B>>/A 1>>": api.ErrForm,
	} {
		fails(t, s, e)
	}
	for s, e := range map[string]api.Errno{"[1 2 R (": api.ErrRef, "[) (": api.ErrForm, "<</A 1/A 2>>(": api.ErrKey, "[>> 1 ": api.ErrForm, "<<[ 1": api.ErrForm, "[obj (": api.ErrForm, strings.Repeat("[", 65) + "(": api.ErrDeep, "/#0 (": api.ErrName, "4000000000 (": api.ErrRange} { // nothing more is wanted
		reads(t, s, 0, false, null(), 0, e)
		reads(t, s, 0, true, null(), 0, e)
	}
}

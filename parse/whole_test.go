package parse_test

import (
	"math/rand/v2"
	"strconv"
	"strings"
	"testing"

	"catchword/api"
	"catchword/lex"
	"catchword/parse"
	"catchword/value"
)

// wholes asks for Whole's answer.
func wholes(t *testing.T, s string, want api.Value, e api.Errno) {
	t.Helper()
	if v, f := parse.Whole([]byte(s)); !value.Same(v, want) || f != e {
		t.Errorf("Whole(%.300q): %s, %v, want %s, %v", s, brief(v), f, brief(want), e)
	}
}

// numbers asks for Number's answer.
func numbers(t *testing.T, s string, at int, last bool, n, to int, e api.Errno) {
	t.Helper()
	if m, got, f := parse.Number([]byte(s), at, last); m != n || got != to || f != e {
		t.Errorf("Number(%.300q, %d, %v): %d, %d, %v, want %d, %d, %v", s, at, last, m, got, f, n, to, e)
	}
}

// says asks for Word's answer.
func says(t *testing.T, s string, at int, last bool, word string, to int, e api.Errno) {
	t.Helper()
	if got, f := parse.Word([]byte(s), at, last, word); got != to || f != e {
		t.Errorf("Word(%.300q, %d, %v, %q): %d, %v, want %d, %v", s, at, last, word, got, f, to, e)
	}
}

func TestWhole(t *testing.T) { // P12.2
	l := ones()
	for s, v := range ints() {
		l[s] = v
	}
	for s, v := range l {
		for _, a := range []string{"", " ", "\x00\t\n\f\r ", "%c\n", "%(\r %)\n"} {
			for _, b := range []string{"", " ", "\n", "\x00\t\n\f\r ", "%", "% c", "%c\n", " %c\r%d\n ", "\n%)"} { // space, and comments
				wholes(t, a+s+b, v, api.OK)
			}
			for _, b := range []string{"]", ">>", "[", "<<", "(x)", "<41>", "/N", "/", " obj", " R", " .5", " null", " 7 8", "%c\n(", " 0 obj", "\n[1]", "%c\r]"} { // a token
				want := api.ErrForm
				if b == "%c\n(" {
					want = api.ErrCut
				}
				wholes(t, a+s+b, null(), want)
			}
			for b, e := range map[string]api.Errno{")": api.ErrForm, "}": api.ErrForm, "{": api.ErrForm, ">": api.ErrForm, " > ": api.ErrForm, "<": api.ErrCut, "(": api.ErrCut, "(x": api.ErrCut, "<4": api.ErrCut, "<g": api.ErrForm, " 1.2.3": api.ErrForm, " 4000000000": api.ErrRange, "/#": api.ErrName, "/#00": api.ErrName, " -": api.ErrForm, "/" + strings.Repeat("n", 128): api.ErrName} { // an error
				wholes(t, a+s+b, null(), e)
				wholes(t, a+s+" %c\n"+b, null(), e)
			}
		}
		few(t)
	}
	for s := range ints() { // an Int behind an Int is a token, and one with R makes it another value
		wholes(t, s+" 0", null(), api.ErrForm)
		wholes(t, s+" 0 0 R", null(), api.ErrForm)
		wholes(t, s+" 0 (", null(), api.ErrForm)
		wholes(t, s+" 0 )", null(), api.ErrForm)
	}
	wholes(t, "7 0 R", ref(7), api.OK)
	wholes(t, "7 0 R%", ref(7), api.OK)
	wholes(t, "7 0 R 0", null(), api.ErrForm)
	wholes(t, "7 0 R )", null(), api.ErrForm)
	wholes(t, "7 0 R (", null(), api.ErrCut)
	wholes(t, "7 1 R (", null(), api.ErrRef)
}

func TestWholeOfErrors(t *testing.T) { // P12.2: Value's error ahead of what stands behind
	for s, e := range map[string]api.Errno{"": api.ErrCut, "[": api.ErrCut, "[1 0 R": api.ErrCut, "]": api.ErrForm, "obj": api.ErrForm, "0 0 R": api.ErrRef, "1 1 R": api.ErrRef, "<</A 1/A 2>>": api.ErrKey, "<</A 1/A 2>> (": api.ErrKey, "/#0": api.ErrName, "4000000000": api.ErrRange, "4000000000 )": api.ErrRange, strings.Repeat("[", 65): api.ErrDeep, "(": api.ErrCut, ")": api.ErrForm} {
		wholes(t, s, null(), e)
	}
}

func TestWholeOfManyTexts(t *testing.T) { // P12.2
	r := rand.New(rand.NewPCG(12, 4))
	of := append(pieces(), wrongPieces()...)
	seen := map[api.Errno]int{}
	for range 200000 {
		var s strings.Builder
		for range r.IntN(6) {
			s.WriteString(of[r.IntN(len(of))])
		}
		b := []byte(s.String())
		v, to, e := plainly(b, 0, true)
		if e == api.OK {
			var l []lex.Token
			if l, _, e = lex.All(b[to:]); len(l) > 0 {
				e = api.ErrForm
			}
		}
		if e != api.OK {
			v = null()
		}
		wholes(t, s.String(), v, e)
		few(t)
		seen[e]++
	}
	for _, e := range []api.Errno{api.OK, api.ErrRange, api.ErrCut, api.ErrForm, api.ErrName, api.ErrRef} {
		if seen[e] < 300 {
			t.Error(seen)
		}
	}
}

func TestNumber(t *testing.T) { // P12.2
	for s, v := range ints() {
		for _, a := range ahead() {
			from := len(a)
			for _, b := range append(behind(), " ", " 0 R ", " 0 R", " 1 1 R ", " (", " <", "%") {
				numbers(t, a+s+b, from, true, v.N, from+len(s), api.OK)
				numbers(t, a+s+b, from, false, v.N, from+len(s), api.OK) // what follows is not asked
			}
			numbers(t, a+s, from, true, v.N, from+len(s), api.OK)
			numbers(t, a+s, from, false, 0, 0, api.ErrMore)
		}
		for _, a := range []string{" ", "%c\n", "\x00\r\n"} {
			numbers(t, a+s+" ", 0, false, v.N, len(a)+len(s), api.OK)
		}
	}
	for n := -300; n < 300; n++ {
		s := strconv.Itoa(n)
		numbers(t, s, 0, true, n, len(s), api.OK)
	}
	numbers(t, "1 2 R", 0, true, 1, 1, api.OK)
	numbers(t, "1 2 R", 1, true, 2, 3, api.OK)
	numbers(t, "1 2 R", 3, true, 0, 0, api.ErrForm)
}

func TestNumberOfOthers(t *testing.T) { // P12.2
	for s, e := range map[string]api.Errno{".5 ": api.ErrForm, "1.0 ": api.ErrForm, "-7. ": api.ErrForm, "(1)": api.ErrForm, "<31>": api.ErrForm, "/1 ": api.ErrForm, "[1]": api.ErrForm, "]": api.ErrForm, "<<": api.ErrForm, ">>": api.ErrForm, "R ": api.ErrForm, "true ": api.ErrForm, "null ": api.ErrForm, "x1 ": api.ErrForm, ")": api.ErrForm, "}": api.ErrForm, "1x ": api.ErrForm, "- ": api.ErrForm, "4000000000 ": api.ErrRange, "/#0 ": api.ErrName, "> ": api.ErrForm, "<g": api.ErrForm} {
		for _, a := range ahead() {
			numbers(t, a+s, len(a), true, 0, 0, e)
			numbers(t, a+s, len(a), false, 0, 0, e)
			numbers(t, a+s+"1 ", len(a), true, 0, 0, e)
		}
	}
	for s, e := range map[string]api.Errno{".5": api.ErrForm, "(1": api.ErrCut, "<3": api.ErrCut, "<": api.ErrCut, "/1": api.ErrForm, "R": api.ErrForm, "4000000000": api.ErrRange, "/#": api.ErrName, ">": api.ErrForm, "1x": api.ErrForm, "": api.ErrCut, " ": api.ErrCut, "%7": api.ErrCut} {
		for _, a := range ahead() {
			numbers(t, a+s, len(a), true, 0, 0, e)
			numbers(t, a+s, len(a), false, 0, 0, api.ErrMore)
		}
	}
}

func TestWord(t *testing.T) { // P12.2
	for _, s := range []string{"obj", "endobj", "stream", "endstream", "R", "xref", "trailer", "startxref", "true", "null", "n", "f", "#41", "x1", "\x80\xff"} {
		for _, a := range ahead() {
			from := len(a)
			for _, b := range append(behind(), " ", "(", " (", "<", "%") {
				says(t, a+s+b, from, true, s, from+len(s), api.OK)
				says(t, a+s+b, from, false, s, from+len(s), api.OK)
				for _, other := range []string{"", s + s, s[:len(s)-1], s + " ", " " + s, strings.ToUpper(s) + "x", s + "\x00", "o", "/" + s} {
					if other != s {
						says(t, a+s+b, from, true, other, 0, api.ErrForm)
						says(t, a+s+b, from, false, other, 0, api.ErrForm)
					}
				}
			}
			says(t, a+s, from, true, s, from+len(s), api.OK)
			says(t, a+s, from, false, s, 0, api.ErrMore)
			says(t, a+s, from, false, "other", 0, api.ErrMore)
			says(t, a+s, from, true, "other", 0, api.ErrForm)
		}
		for _, a := range []string{" ", "%c\n", "\x00\r\n"} {
			says(t, a+s+" ", 0, false, s, len(a)+len(s), api.OK)
		}
		few(t)
	}
}

func TestWordOfOthers(t *testing.T) { // P12.2: what is no word is none, whatever it says
	for s, e := range map[string]api.Errno{"(obj)": api.ErrForm, "/obj ": api.ErrForm, "[": api.ErrForm, "]": api.ErrForm, "<<": api.ErrForm, ">>": api.ErrForm, "<6f626a>": api.ErrForm, "7 ": api.ErrForm, ".5 ": api.ErrForm, "ob j ": api.ErrForm, "[obj]": api.ErrForm, ")": api.ErrForm, "{": api.ErrForm, "> ": api.ErrForm, "- ": api.ErrForm, "4000000000 ": api.ErrRange, "/#0 ": api.ErrName, "<o": api.ErrForm} {
		for _, a := range ahead() {
			for _, word := range []string{"obj", "", "R", "[", "7", s} {
				says(t, a+s, len(a), true, word, 0, e)
				says(t, a+s, len(a), false, word, 0, e)
				says(t, a+s+"obj ", len(a), true, word, 0, e)
			}
		}
	}
	for s, e := range map[string]api.Errno{"(obj": api.ErrCut, "<6f": api.ErrCut, "<": api.ErrCut, "/obj": api.ErrForm, "7": api.ErrForm, "ob": api.ErrForm, "4000000000": api.ErrRange, "/#": api.ErrName, ">": api.ErrForm, "": api.ErrCut, " ": api.ErrCut, "%obj": api.ErrCut} {
		for _, a := range ahead() {
			says(t, a+s, len(a), true, "obj", 0, e)
			says(t, a+s, len(a), false, "obj", 0, api.ErrMore)
		}
	}
}

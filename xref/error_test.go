package xref_test

import (
	"fmt"
	"math"
	"strings"
	"testing"

	"catchword/api"
	"catchword/xref"
)

// tokenErrors are what is no token, with its error, whatever is behind.
func tokenErrors() map[string]api.Errno {
	return map[string]api.Errno{")": api.ErrForm, "{": api.ErrForm, "}": api.ErrForm, "> ": api.ErrForm, "<x>": api.ErrForm, "+": api.ErrForm, "1-2": api.ErrForm, "0x": api.ErrForm, "--1": api.ErrForm, "2147483648": api.ErrRange, "-2147483648": api.ErrRange, "99999999999999999999": api.ErrRange, "/#": api.ErrName, "/#0x": api.ErrName, "/#00": api.ErrName, "/" + strings.Repeat("n", 128): api.ErrName}
}

// others are tokens, but no Int, no word that a section has.
func others() []string {
	return []string{"x", "R", "obj", "trailers", "Trailer", "traile", "startxref", "n", "f", "null", "true", "[", "]", "<<", ">>", "()", "(trailer)", "(0)", "<41>", "/trailer", "/A", ".5", "1.", "0.0", "-1.5"}
}

func TestTheWordXref(t *testing.T) { // P15.2: parse's errors
	for s, e := range tokenErrors() {
		fails(t, s, e)
	}
	for _, s := range append(others(), "xreg", "xre", "xrefs", "Xref", "XREF", "trailer", "0", "(xref)", "/xref", "xref0", "<</xref 1>>") {
		fails(t, s, api.ErrForm)
		fails(t, s+" xref 0 1\n"+one+"trailer<<>>", api.ErrForm)
	}
	cut(t, "(xref")
	cut(t, "<")
	cut(t, "<78")
}

func TestFirstNumbers(t *testing.T) { // P15.2: the first token of a group, or the word behind them
	for _, ahead := range []string{"xref ", "xref\n0 0\n", "xref\n0 1\n" + one, "xref 0 1 0000000017 00000 n ", "xref 4097 0 0 2 " + one + one} {
		for s, e := range tokenErrors() {
			fails(t, ahead+s, e)
			fails(t, ahead+s+" 1 "+one+"trailer<<>>", e)
		}
		for _, s := range append(others(), "xref") {
			fails(t, ahead+s, api.ErrXref)
			fails(t, ahead+s+" 1 "+one+"trailer<<>>", api.ErrXref)
			fails(t, ahead+s+" )", api.ErrXref)
		}
		for _, s := range []string{"", "%", "(", "(trailer", "<", "<41", "%trailer<<>>"} {
			cut(t, ahead+s)
		}
	}
}

func TestSecondNumbers(t *testing.T) { // P15.2: ahead of what is said of both
	for _, first := range []string{"0 ", "4097\n", "4098 ", "-1 ", "2147483647%\n", "-2147483647\r"} {
		for _, ahead := range []string{"xref ", "xref\n0 1\n" + one, "xref " + strings.Repeat("0 0 ", xref.MostGroups)} {
			ahead += first
			for s, e := range tokenErrors() {
				fails(t, ahead+s, e)
			}
			for _, s := range append(others(), "xref", "trailer", "trailer<<>>") {
				fails(t, ahead+s, api.ErrXref)
			}
			for _, s := range []string{"", "%", "(", "<", "<41"} {
				cut(t, ahead+s)
			}
		}
	}
}

func TestWrongNumbers(t *testing.T) { // P15.2: First, how many, and both
	for s, wrong := range map[string]bool{"-1 0": true, "-1 1": true, "-2147483647 1": true, "0 -1": true, "1 -1": true, "4097 -1": true, "4096 -2147483647": true, "-1 -1": true, "4098 0": true, "4097 1": true, "4096 2": true, "0 4098": true, "1 4097": true, "2049 2049": true, "5000 0": true, "2147483647 0": true, "0 2147483647": true, "2147483647 2147483647": true, "5000 -4000": true, "-5 4000": true, "0 0": false, "4097 0": false, "0 4097": false, "4096 1": false, "1 4096": false, "2048 2049": false, "-0 +1": false} {
		for _, ahead := range []string{"xref ", "xref\n0 0\n", "xref\n0 1\n" + one} {
			if wrong {
				fails(t, ahead+s, api.ErrXref)
				fails(t, ahead+s+"\n"+one+"trailer<<>>", api.ErrXref)
				fails(t, ahead+s+"\n)", api.ErrXref)
				refuses(t, ahead+s, 0, false, api.ErrMore) // its last digit may not be the last
			} else {
				cut(t, ahead+s)
				cut(t, ahead+s+"\n")
			}
			refuses(t, ahead+s, 0, true, map[bool]api.Errno{true: api.ErrXref, false: api.ErrCut}[wrong])
		}
	}
}

func TestMoreGroupsThanMayBe(t *testing.T) { // P15.2: the 65th one, behind its numbers, ahead of its entries
	for _, each := range []string{"0 0 ", "4097 0\n", "7 1\n" + one} {
		ahead := "xref " + strings.Repeat(each, xref.MostGroups)
		for _, s := range []string{"0 0", "0 0 trailer<<>>", "0 1", "7 1\n" + one + "trailer<<>>", "0 2\n)", "4097 0", "-1 0", "4097 1"} {
			fails(t, ahead+s, api.ErrXref)
		}
		cut(t, ahead)
		cut(t, ahead+"0")
		cut(t, ahead+"0 ")
		cut(t, ahead+"trailer")
		fails(t, ahead+"0 )", api.ErrForm)
		refuses(t, ahead+"0 0", 0, false, api.ErrMore)
		if e := agrees(t, ahead+"trailer<<>>", 0); e != api.OK {
			t.Error(e)
		}
		if e := agrees(t, "xref "+strings.Repeat(each, xref.MostGroups-1)+"0 0 trailer<<>>", 0); e != api.OK {
			t.Error(e)
		}
	}
}

func TestEachByteOfAnEntry(t *testing.T) { // P15.2: ten digits, a blank, five digits, a blank, n or f, and an end
	const good = "dddddddddd ddddd l e"
	for at := range 19 {
		for c := range 256 {
			s := []byte("0000000000 00000 n \n")
			s[at] = byte(c)
			ok := false
			switch good[at] {
			case 'd':
				ok = c >= '0' && c <= '9' && (at != 0 || c <= '2') && (at != 11 || c <= '6') // else a number is too great
			case ' ':
				ok = c == ' ' || at == 18 && (c == 10 || c == 13)
			case 'l':
				ok = c == 'n' || c == 'f'
			}
			for _, ahead := range []string{"xref 0 1 ", "xref\n3 2\n" + one} {
				e := agrees(t, ahead+string(s)+"trailer<<>>", 0)
				if want := map[bool]api.Errno{true: api.OK, false: api.ErrXref}[ok]; e != want {
					t.Errorf("%q: %v, want %v", s, e, want)
				}
			}
		}
	}
}

func TestWrongEntries(t *testing.T) { // P15.2: of another form, and with numbers that are too great
	for _, s := range []string{"2147483648 00000 n \n", "2147483650 00000 f \n", "3000000000 00000 n \n", "9999999999 65535 f \n", "0000000017 65536 n \n", "0000000017 65540 f \n", "0000000017 99999 n \n", "2147483648 65536 n \n", "-000000017 00000 n \n", "+000000017 00000 n \n", "000000017 00000 n \n ", "0000000017 0000 n \n ", "00000000017 00000 n \n", "0000000017 000000 n \n", "0000000017  00000 n \n", "0000000017 00000  n \n", "0000000017\n00000 n \n", "0000000017 00000\nn \n", "0000000017\t00000 n \n", "0000000017 00000 N \n", "0000000017 00000 F \n", "0000000017 00000 g \n", "0000000017 00000 nn\n", "0000000017 00000 nf\n", "0000000017 00000 n\t\n", "0000000017 00000 n%\n", "0000000017.00000 n \n", "000000001. 00000 n \n", "0000000017 0000. n \n", "0x00000017 00000 n \n", "trailer<<>>         ", "0 1 trailer<</A 1>> "} {
		for _, ahead := range []string{"xref 0 1 ", "xref 0 2\n", "xref\n3 2\n" + one, "xref 0 0 5 3\n" + one + one} {
			fails(t, ahead+s, api.ErrXref)
			fails(t, ahead+s+"trailer<<>>", api.ErrXref)
			refuses(t, ahead+s[:19], 0, false, api.ErrXref) // behind 19 bytes nothing more is needed to tell
		}
	}
}

func TestFewerEntriesThanSaid(t *testing.T) { // P15.2: where b ends, whatever stands ahead of that
	for _, ahead := range []string{"xref 0 1", "xref 0 2\n" + one, "xref 4 3 " + one + one} {
		for _, s := range []string{" ", "\n", "\x00\t\n\f\r ", " 0", " 0000000017 00000 n", "\n\n\n0000000017 00000 n", " )", " 5", " x", " trailer<<>>", " trailer<</A 1>>", " 9999999999 99999 x", " %", " (", " 0000000017 00000 "} {
			cut(t, ahead+s)
		}
	}
	cut(t, "xref 0 1")
	cut(t, "xref 0 1)")
	cut(t, "xref 0 1%")
	cut(t, "xref 0 1(trailer<</A 1>>")
	fails(t, "xref 0 1/0000000017 00000 n \n", api.ErrXref)
	fails(t, "xref 0 1\n"+one+one+"trailer<<>>", api.ErrXref)     // one more than said is a group's two numbers, and an n
	fails(t, "xref 0 2\n"+one+"trailer<<>>        ", api.ErrXref) // one fewer
}

func TestWrongTrailers(t *testing.T) { // P15.2: parse's errors, and values that are no Dict
	for _, ahead := range []string{"xref trailer", "xref\n0 1\n" + one + "trailer\n", "xref 0 0 trailer%\n"} {
		for s, e := range tokenErrors() {
			fails(t, ahead+" "+s, e)
		}
		for s, e := range map[string]api.Errno{"]": api.ErrForm, ">>": api.ErrForm, "x": api.ErrForm, "trailer": api.ErrForm, "R": api.ErrForm, "<<1 2>>": api.ErrForm, "<</A>>": api.ErrForm, "<</A]": api.ErrForm, "[>>": api.ErrForm, "<</A 1/A 2>>": api.ErrKey, "<</A<</B 1/B 2>>>>": api.ErrKey, "<</A 0 0 R>>": api.ErrRef, "<</A 4097 0 R>>": api.ErrRef, "1 1 R": api.ErrRef, "<</A " + strings.Repeat("[", 64): api.ErrDeep, "<</A " + strings.Repeat("[", 63) + "null ": api.ErrDeep} {
			fails(t, ahead+" "+s, e)
		}
		for _, s := range []string{"null", "true", "false", "5 x", "5 0 x", "0 0 obj", ".5", "-7 )", "()", "(<<>>)", "<41>", "/A", "/Size", "[]", "[<<>>]", "[1 0 R]", "1 0 R", "4096 0 R"} {
			fails(t, ahead+" "+s, api.ErrXref)
			fails(t, ahead+" "+s+" <<>>", api.ErrXref)
		}
		for _, s := range []string{"", " ", "%", "<", "<<", "<</", "<</A", "<</A 1", "<</A 1 0 R", "<</A (", "[", "(", "[<<>>", "<</A[<<>>"} {
			cut(t, ahead+s)
		}
		for _, s := range []string{"<</A 1 0", "<</A 1>", "[1>", "[>"} { // wrong, if nothing comes behind
			refuses(t, ahead+s, 0, true, api.ErrForm)
			refuses(t, ahead+s, 0, false, api.ErrMore)
		}
	}
	refuses(t, "xref trailer 5", 0, false, api.ErrMore) // a reference may come of it
	refuses(t, "xref trailer 5 0", 0, false, api.ErrMore)
	refuses(t, "xref trailer null", 0, false, api.ErrMore)
	refuses(t, "xref trailer 5", 0, true, api.ErrXref)
	refuses(t, "xref trailer []", 0, false, api.ErrXref)
	refuses(t, "xref trailer(x)", 0, false, api.ErrXref)
}

func TestAllElseIsZero(t *testing.T) { // R2: beside an error of each kind, also behind groups
	for s, e := range map[string]api.Errno{"xreg": api.ErrForm, "xref": api.ErrCut, "xref 0 1 " + one + "5 1 x": api.ErrCut, "xref 0 1 " + one + "x": api.ErrXref, "xref 0 1 " + one + "5 5000": api.ErrXref, "xref 0 1 " + one + "trailer 5": api.ErrXref, "xref 0 1 " + one + "trailer<</A 1/A 2>>": api.ErrKey, "xref 0 1 " + one + "trailer 0 0 R": api.ErrRef, "xref 2147483648": api.ErrRange, "xref/#": api.ErrName} {
		x, to, f := xref.Parse([]byte(s), 0, true)
		if x.Groups != nil || x.Trailer.Kind != 0 || x.Trailer.L != nil || to != 0 || f != e {
			t.Errorf("%q: %s, %d, %v", s, brief(x), to, f)
		}
	}
	for _, at := range []int{math.MinInt, -1, 1, math.MaxInt} {
		x, to, e := xref.Parse(nil, at, true)
		if fmt.Sprint(x, to, e) != fmt.Sprint(xref.Section{}, 0, api.ErrArg) {
			t.Error(x, to, e)
		}
	}
}

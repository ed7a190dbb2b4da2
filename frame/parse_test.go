package frame_test

import (
	"math"
	"strings"
	"testing"

	"catchword/api"
	"catchword/frame"
	"catchword/lex"
)

func TestParseOfEachKind(t *testing.T) { // P14.3
	stands(t, "5 0 obj\n7\nendobj", 5, plain(whole(7)))
	for s, v := range map[string]api.Value{"null": null(), "true": truth(1), "false": truth(0), "7": whole(7), "-7": whole(-7), ".5": millionths(500000), "(endobj)": text("endobj"), "<41 4>": text("A@"), "/A": name("A"), "/endobj": name("endobj"), "/#41": name("A"), "[]": array(), "[1 0 R 7]": array(ref(1), whole(7)), "<<>>": dict(), "<</B 1/A 2>>": dict(name("A"), whole(2), name("B"), whole(1)), "7 0 R": ref(7), "<</Length(x)/Filter/X/DecodeParms null>>": dict(name("DecodeParms"), null(), name("Filter"), name("X"), name("Length"), text("x"))} {
		stands(t, "12 0 obj "+s+" endobj", 12, plain(v))
		stands(t, "12 0 obj\r\n"+s+"%x\rendobj", 12, plain(v))
	}
	for _, v := range goodValues() {
		stands(t, strings.TrimSuffix(printed(4096, plain(v)), "\n"), 4096, plain(v))
	}
	for s, v := range map[string]api.Value{"(a)": text("a"), "[]": array(), "<<>>": dict(), "<41>": text("A")} { // delimiters need no space around them
		stands(t, "1 0 obj"+s+"endobj", 1, plain(v))
	}
}

func TestSpaceBetweenTheParts(t *testing.T) { // P14.3: with space and comments
	seps := []string{" ", "\n", "\r", "\r\n", "\x00\t\n\f\r ", "%\n", "%endobj\r", " %1 0 obj ( <\n", "\n%a\r%b\n\n"}
	for _, a := range seps {
		for _, b := range seps {
			stands(t, "7"+a+"0"+b+"obj"+a+"/A"+b+"endobj", 7, plain(name("A")))
			stands(t, b+"7"+a+"0"+a+"obj"+b+"<<"+a+"/Length"+b+"3>>"+a+"stream\nabc"+b+"endstream"+a+"endobj", 7, stream("abc"))
			stands(t, a+b+"7"+b+"0"+a+"obj"+a+b+"<</Length 3"+a+">>"+b+"stream\r\nabc"+a+"endstream"+b+"endobj", 7, stream("abc"))
		}
	}
	stands(t, "7 0 obj<</Length 3>>stream\nabcendstream endobj", 7, stream("abc")) // the bytes need no space behind them
	for _, s := range []string{"70 obj 7 endobj", "7 0obj 7 endobj", "7 0 obj7 endobj"} {
		fails(t, s, api.ErrForm)
	}
	cut(t, "7 0 obj /Aendobj ")
	fails(t, "7 0 obj 7endobj", api.ErrForm)
	fails(t, "7 0 obj<</Length 3>>stream\nabc endstreamendobj", api.ErrForm)
	cut(t, "7 0 obj 7%endobj")
}

func TestParseFromPlaces(t *testing.T) { // P14.3: at the beginning, in the middle, and at the end
	all := []api.Object{plain(whole(7)), stream("abc", name("A"), null()), plain(array(ref(1))), stream("endstream\nendobj\n5 0 obj")}
	var from []int
	s := ""
	for i, o := range all {
		from = append(from, len(s))
		s += printed(i+1, o)
	}
	for i, o := range all {
		to := len(s) - 1
		if i+1 < len(all) {
			to = from[i+1] - 1
		}
		reads(t, s, from[i], true, i+1, o, to, api.OK)
		reads(t, s, from[i], false, i+1, o, to, api.OK)
	}
	for at := range len(s) + 1 { // also within tokens, and where no object stands
		agrees(t, s, at)
	}
	reads(t, "11 0 obj 7 endobj", 1, true, 1, plain(whole(7)), 17, api.OK)
	refuses(t, s, len(s), true, api.ErrCut)
	refuses(t, s, len(s), false, api.ErrMore)
	refuses(t, s, len(s)-1, true, api.ErrCut)
	refuses(t, s, len(s)-1, false, api.ErrMore)
}

func TestWrongPlaces(t *testing.T) { // P14.3: ErrArg, as parse.Number has it
	for _, s := range []string{"", " ", "1", "1 0 obj 7 endobj", "("} {
		for _, at := range []int{-1, -2, math.MinInt, math.MinInt + 1, len(s) + 1, len(s) + 2, 100, 1 << 32, math.MaxInt} {
			refuses(t, s, at, true, api.ErrArg)
			refuses(t, s, at, false, api.ErrArg)
		}
	}
	if n, o, to, e := frame.Parse(nil, 1, true); n != 0 || !alike(o, api.Object{}) || to != 0 || e != api.ErrArg {
		t.Error(n, o, to, e)
	}
}

func TestNothing(t *testing.T) { // P14.3: no token at all
	for _, s := range []string{"", " ", "\x00\t\n\f\r ", "%", "%1 0 obj 7 endobj", " %a\n "} {
		refuses(t, s, 0, true, api.ErrCut)
		refuses(t, s, 0, false, api.ErrMore)
		refuses(t, "7 0 obj 7 endobj "+s, 17, true, api.ErrCut)
		refuses(t, "7 0 obj 7 endobj "+s, 17, false, api.ErrMore)
	}
	if n, o, to, e := frame.Parse(nil, 0, true); n != 0 || !alike(o, api.Object{}) || to != 0 || e != api.ErrCut {
		t.Error(n, o, to, e)
	}
}

func TestNumbers(t *testing.T) { // P14.3: from 1 to 4096, and the 0 behind it
	for s, n := range map[string]int{"1": 1, "4096": 4096, "+5": 5, "0005": 5, "4095": 4095} {
		for _, zero := range []string{"0", "00", "-0", "+0"} {
			stands(t, s+" "+zero+" obj 7 endobj", n, plain(whole(7)))
		}
	}
	for _, behind := range []string{" 0 obj 7 endobj", " 1 obj 7 endobj", " x", " )", " ", " (", " 0 obb"} { // at once
		for _, s := range []string{"0", "-0", "-1", "4097", "4098", "65537", "2147483647", "-2147483647"} {
			fails(t, s+behind, api.ErrFrame)
		}
		for _, s := range []string{"1.0", "1.", ".5", "(1)", "<31>", "/1", "obj", "[1]", "<<>>", "]", "1a", "--1", "+", "null", ")", "endobj", "R"} {
			fails(t, s+behind, api.ErrForm)
		}
		fails(t, "2147483648"+behind, api.ErrRange)
		fails(t, "/#0"+behind, api.ErrName)
	}
	for _, behind := range []string{" obj 7 endobj", " obj 7", " x", " )", " ", " ("} {
		for _, s := range []string{"1", "-1", "2", "65535", "2147483647"} {
			fails(t, "7 "+s+behind, api.ErrFrame)
		}
		for _, s := range []string{"0.0", ".0", "(0)", "<30>", "/0", "obj", "[0]", "<<>>", "0a", "null", "}", "endobj", "R"} {
			fails(t, "7 "+s+behind, api.ErrForm)
		}
		fails(t, "7 4000000000"+behind, api.ErrRange)
		fails(t, "7 /#0"+behind, api.ErrName)
	}
}

func TestOtherWordsThanObj(t *testing.T) { // P14.3
	for _, behind := range []string{" 7 endobj", " ", " )", " ("} {
		for _, s := range []string{"obb", "Obj", "OBJ", "objx", "bobj", "ob", "endobj", "stream", "R", "7", "0", "(obj)", "<6f626a>", "/obj", "[obj]", "[", "]", "<<", ">>", ")", "{", "null", "obj7", "\xffobj"} {
			fails(t, "1 0 "+s+behind, api.ErrForm)
		}
		fails(t, "1 0 4000000000"+behind, api.ErrRange)
		fails(t, "1 0 /#0"+behind, api.ErrName)
	}
}

func TestWrongValues(t *testing.T) { // P14.3: parse.Value's errors
	for _, behind := range []string{" endobj", " ", " stream\n", " )"} {
		for s, e := range map[string]api.Errno{"endobj": api.ErrForm, "obj": api.ErrForm, "]": api.ErrForm, ">>": api.ErrForm, ")": api.ErrForm, "TRUE": api.ErrForm, "stream\n": api.ErrForm, "[1 endobj": api.ErrForm, "[1 2 R]": api.ErrRef, "1 2 R": api.ErrRef, "0 0 R": api.ErrRef, "4097 0 R": api.ErrRef, "/#0": api.ErrName, "4000000000": api.ErrRange, "<</A 1/A 2>>": api.ErrKey, "<</A>>": api.ErrForm, "<<1 2>>": api.ErrForm, "[>>": api.ErrForm, "<4g": api.ErrForm} {
			fails(t, "1 0 obj "+s+behind, e)
		}
		fails(t, "1 0 obj "+strings.Repeat("[", 65)+behind, api.ErrDeep)
	}
	for _, s := range []string{"1 0 obj", "1 0 obj ", "1 0 obj [", "1 0 obj (endobj", "1 0 obj <</A 1 ", "1 0 obj <</A[7 8]", "1 0 obj <41", "1 0 obj %7 endobj", "1 0 obj [1 0 R"} {
		cut(t, s)
	}
}

func TestWithoutEndobj(t *testing.T) { // P14.3: what stands behind the value
	for _, v := range []string{"7", "null", "(x)", "/A", "[1]", "<<>>", "1 0 R", "<</Length 3>>"} {
		for _, s := range []string{"x", "obj", "endobjx", "xendobj", "Endobj", "ENDOBJ", "endob", "endstream", "streams", "Stream", "R", "null", "7", "7 0 R", "(endobj)", "<41>", "/endobj", "/stream", "(stream)", "[endobj", "]", "<<", ">>", "1 0 obj 7 endobj"} {
			for _, behind := range []string{" endobj", "\n", " )"} {
				if v == "7" && s == "7" { // both may begin a reference
					agrees(t, "1 0 obj 7 7"+behind, 0)
					continue
				}
				fails(t, "1 0 obj "+v+" "+s+behind, api.ErrFrame)
			}
		}
		for s, e := range map[string]api.Errno{")": api.ErrForm, "}": api.ErrForm, "> ": api.ErrForm, "<g": api.ErrForm, "1.2.3 ": api.ErrForm, "/#0 ": api.ErrName, "4000000000 ": api.ErrRange} {
			fails(t, "1 0 obj "+v+" "+s, e)
		}
		for _, s := range []string{"", " ", "%endobj", " %endobj\n ", "(endobj", "<"} {
			cut(t, "1 0 obj "+v+" "+s)
		}
	}
}

func TestTheEndAtEachPlace(t *testing.T) { // P14.3: with and without last
	packed := packedText("endobj", "/FlateDecode")
	for _, s := range []string{"5 0 obj\n7\nendobj", " 12 0 obj<</A[1 0 R(x)]/B<41>>>endobj", "%c\n7 0 obj null endobj", "7 0 obj<</Length 3/A 1>>stream\nabc\nendstream endobj", "7 0 obj<</Length 3>> stream\r\nabc\r\nendstream\r\nendobj", "7 0 obj<</Length 0>>stream\nendstream endobj", "4096 0 obj<</Length 6>>%\nstream\nendobjendstream%\nendobj", packed} {
		for n := range len(s) {
			refuses(t, s[:n], 0, false, api.ErrMore)
			if e := agrees(t, s[:n], 0); e == api.OK || e == api.ErrMore {
				t.Errorf("%q: %v", s[:n], e)
			}
			at := len(s) - n
			refuses(t, strings.Repeat("x", at)+s[:n], at, false, api.ErrMore)
		}
		refuses(t, s, 0, false, api.ErrMore)
		if e := agrees(t, s, 0); e != api.OK {
			t.Errorf("%q: %v", s, e)
		}
		if e := agrees(t, s+" ", 0); e != api.OK {
			t.Errorf("%q: %v", s, e)
		}
	}
	for _, s := range []string{"7", "7 ", "7 0", "7 0 ", "7 0 obj", "7 0 obj\n", "7 0 obj[", "7 0 obj[]", "7 0 obj 7", "7 0 obj 7 ", "7 0 obj(x", "7 0 obj<</A 1>>", "7 0 obj<</Length 3>>stream", "7 0 obj<</Length 3>>stream\r", "7 0 obj<</Length 3>>stream\n", "7 0 obj<</Length 3>>stream\r\n", "7 0 obj<</Length 3>>stream\nab", "7 0 obj<</Length 3>>stream\nabc", "7 0 obj<</Length 3>>stream\nabc\n", "7 0 obj<</Length 3>>stream\nabc endstream", "7 0 obj<</Length 3>>stream\nabc endstream%endobj", "7 0 obj<</Length 16777216>>stream\nabc endstream endobj"} {
		cut(t, s)
	}
	for s, e := range map[string]api.Errno{"7 0 o": api.ErrForm, "7 0 obj<</Length 3>>strea": api.ErrFrame, "7 0 obj 7 endob": api.ErrFrame, "7 0 obj<</Length 3>>stream\nabc endstrea": api.ErrForm, "7 0 obj<</Length 3>>stream\nabc endstream endob": api.ErrForm, "7 0 obj nul": api.ErrForm, "7 0 obj 7 0": api.ErrFrame, "7 0 obj 7 0 ": api.ErrFrame, "7 0 obj/#": api.ErrName, "7 0 obj>": api.ErrForm, "+": api.ErrForm, "0": api.ErrFrame, "4097": api.ErrFrame, "7 1": api.ErrFrame, "7 0 obj<<>>stream": api.ErrFrame} { // the last token is another one, or none, but may go on
		refuses(t, s, 0, true, e)
		refuses(t, s, 0, false, api.ErrMore)
	}
}

func TestAllBytes(t *testing.T) { // P14.3, R1: each byte at each place of objects
	for _, s := range []string{"5 0 obj 7 endobj ", "5 0 obj<</A(x)>>endobj ", "5 0 obj<</Length 2>>stream\nab endstream endobj ", "5 0 obj<</Length 1>>stream\r\n\nendstream endobj "} {
		for at := range s {
			for c := range 256 {
				b := []byte(s)
				b[at] = byte(c)
				agrees(t, string(b), 0)
				agrees(t, s[:at]+string([]byte{byte(c)})+s[at:], 0)
			}
		}
	}
	for _, s := range []string{"[", "<<", "(", "<</A", "1 0 obj ", "stream\n", "endobj "} {
		agrees(t, strings.Repeat(s, 3000), 0)
		agrees(t, "1 0 obj "+strings.Repeat(s, 3000), 0)
	}
}

func TestTokensAreWhole(t *testing.T) { // P14.3: a text or a name that reads like a word is none
	if tok, _ := lex.Next([]byte("(endobj)"), 0, true); tok.V.S != "endobj" {
		t.Fatal(tok)
	}
	for _, word := range []string{"endobj", "stream\nabc endstream endobj", "obj"} {
		for _, s := range []string{"(" + word + ")", "/" + word, "[" + word + "]", "<<" + word + ">>", "%" + word + "\n7"} {
			fails(t, "1 0 obj<</Length 3>>"+s+" endobj", api.ErrFrame)
		}
	}
}

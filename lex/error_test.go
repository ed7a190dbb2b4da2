package lex_test

import (
	"math"
	"strings"
	"testing"

	"catchword/api"
	"catchword/lex"
)

// fails asks that a text is an error where its end is the file's, and another where it is not, whatever space is ahead of it; the place is the first byte's.
func fails(t *testing.T, s string, last, more api.Errno) {
	t.Helper()
	for _, ahead := range []string{"", " ", "\x00\t\n\f\r ", "%(\n", "% a\r %b\n"} {
		from := len(ahead)
		nexts(t, ahead+s, 0, true, placed(lex.Token{}, from, from), last)
		nexts(t, ahead+s, 0, false, placed(lex.Token{}, from, from), more)
		nexts(t, "[1"+ahead+s, 2, true, placed(lex.Token{}, 2+from, 2+from), last)
		nexts(t, "[1"+ahead+s, 2+from, false, placed(lex.Token{}, 2+from, 2+from), more)
	}
}

func TestWrongPlaces(t *testing.T) { // P10.2: ErrArg ahead of all else, without a place
	for _, s := range []string{"", " ", "a", "(", ") ", "[1 2]"} {
		for _, at := range []int{-1, -2, math.MinInt, math.MinInt + 1, len(s) + 1, len(s) + 2, 100, 1 << 32, math.MaxInt} {
			nexts(t, s, at, true, lex.Token{}, api.ErrArg)
			nexts(t, s, at, false, lex.Token{}, api.ErrArg)
		}
	}
	for _, last := range []bool{true, false} {
		for _, at := range []int{-1, 1} {
			if u, e := lex.Next(nil, at, last); !alike(u, lex.Token{}) || e != api.ErrArg {
				t.Error(at, last, u, e)
			}
		}
	}
}

func TestNoToken(t *testing.T) { // P10.2: the token End, or ErrMore, at b's end
	for _, s := range []string{"", " ", "\x00\t\n\f\r ", "%", "%a b", "% (\n", "%a\r%b", "  %a\n  ", "%\n"} {
		for at := range len(s) + 1 {
			if lex.Skip([]byte(s), at) == len(s) {
				nexts(t, s, at, true, placed(lex.Token{}, len(s), len(s)), api.OK)
				nexts(t, s, at, false, placed(lex.Token{}, len(s), len(s)), api.ErrMore)
			}
		}
	}
	nexts(t, "[1]", 3, true, placed(lex.Token{}, 3, 3), api.OK)
	nexts(t, "[1] % 2", 3, false, placed(lex.Token{}, 7, 7), api.ErrMore)
	for _, last := range []bool{true, false} {
		if u, e := lex.Next(nil, 0, last); !alike(u, lex.Token{}) || (e == api.OK) != last {
			t.Error(last, u, e)
		}
	}
}

func TestTextsThatAreNotClosed(t *testing.T) { // P10.2
	for _, s := range []string{
		"(", "(a", "(a(b)", "((", "(()", "(a%", `(\)`, `(\`, `(a\`, `(\(`, `(\\`, `(\1`, `(\12`, `(\123`, `(\7`, `(\77`, `(\777`, `(\n`, "(\r", "(a\r", "(\r\n", "(\\\r", "(\\\r\n", "(\\\n", "(%\n", "( ", "(\x00", `(\)\)`,
		"(" + strings.Repeat("a", 70000), strings.Repeat("(", 70000), strings.Repeat("(", 70000) + strings.Repeat(")", 69999), "(<>[]{}/#0 1.2.3 ",
	} {
		fails(t, s, api.ErrCut, api.ErrMore)
	}
}

func TestTextsInHexThatAreNotClosed(t *testing.T) { // P10.2
	for _, s := range []string{"<", "<4", "<41", "<41 ", "< ", "<\n", "<4 1\x00", "<" + strings.Repeat("4", 70000), "<" + strings.Repeat(" ", 70000)} {
		fails(t, s, api.ErrCut, api.ErrMore)
	}
}

func TestWrongBytesInHex(t *testing.T) { // P10.2: told at the first one, whatever comes, or may come
	for _, s := range []string{"<g>", "<4g>", "<41g>", "<4g", "<g", "<41g", "< g", "<4 g>", "<4<", "<4<1>>", "< <", "<4[", "<4]>", "<4(", "<4)", "<4{", "<4}", "<4/>", "<4%>", "<%\n41>", "<4#1>", "<4.", "<-4>", "<0x41>", "<4\v1>", "<4\x80>", "<\xff", "<4\x7f>", "<4:>", "<4/", "<4@>", "<4G>", "<4`>", "<g>g", "<" + strings.Repeat("4", 70000) + "x"} {
		fails(t, s, api.ErrForm, api.ErrForm)
	}
}

func TestBracketsThatMayNotBe(t *testing.T) { // P10.2
	for _, s := range []string{")", "{", "}", ") ", "{ ", "} ", "))", "{}", "}{", ")]", "{1", "}a", "> ", ">a", ">]", ">)", ">(", ">%>", "> >", ">\n>", ">/", ">\x00"} {
		fails(t, s, api.ErrForm, api.ErrForm)
	}
	fails(t, ">", api.ErrForm, api.ErrMore)
}

// ends asks that regular bytes end by a file's end as they do by space, or by a delimiter; more may come where neither is seen.
func ends(t *testing.T, s string, e api.Errno) {
	t.Helper()
	fails(t, s, e, api.ErrMore)
	for _, behind := range []string{" ", "\x00", "\n", "]", "(", ")", "<", ">", "{", "}", "/", "%"} {
		fails(t, s+behind, e, e)
	}
}

func TestNumbersThatAreNone(t *testing.T) { // P10.2
	for _, s := range []string{"-", "+", ".", "+.", "-.", "1.2.3", "1..", "--1", "+-1", "1-", "1+1", "1e5", "1a", "0x10", "12R", "1,5", "-a", "+R", ".x", "1#", "1#30", "1\\", "1\x80", "1\xff", "1\v", "2147483648x", ".1.", "..."} {
		ends(t, s, api.ErrForm)
	}
	for _, s := range []string{"2147483648", "-2147483648", "+2147483648", "4000000000", "2147483648.", "2147483647.000001", "-2147483647.5", "18446744073709551617", strings.Repeat("9", 70000)} {
		ends(t, s, api.ErrRange)
	}
}

func TestNamesThatMayNotBe(t *testing.T) { // P10.2
	for _, s := range []string{"/#", "/a#", "/a#0", "/a#4", "/#4g", "/#g4", "/#gg", "/#4G", "/#-1", "/#+1", "/#0x", "/#4#", "/##", "/##41", "/#41#", "/#41#4", "/a#\x80\x80", "/#\xff4", "/#4:", "/#4@", "/#`4", "/#00", "/a#00", "/#00a", "/a#00#41", "/#41#00b", "/#00#"} {
		ends(t, s, api.ErrName)
	}
	for _, s := range []string{"/#\x0041 ", "/#4\x001 ", "/# 41 ", "/#4 1 ", "/#/41 ", "/#(41) ", "/#4%1 "} { // the name ends ahead of the second digit
		fails(t, s, api.ErrName, api.ErrName)
	}
}

func TestLongNames(t *testing.T) { // P10.2: what counts is what the name is, not how many bytes it has in the file
	for _, of := range []struct{ s, is string }{{"n", "n"}, {"\x80", "\x80"}, {"#41", "A"}, {"#ff", "\xff"}, {"n#41", "nA"}, {"#20n", " n"}} {
		full := strings.Repeat(of.s, 127/len(of.is))
		s, is := full, strings.Repeat(of.is, 127/len(of.is))
		if len(is) < 127 {
			s, is = s+"x", is+"x"
		}
		stands(t, "/"+s, name(is))
		stands(t, "/"+s[len(of.s):], name(is[len(of.is):]))
		ends(t, "/"+s+"x", api.ErrName)
		ends(t, "/"+s+"#41", api.ErrName)
		ends(t, "/#41"+s, api.ErrName)
		ends(t, "/"+s+full, api.ErrName)
	}
	ends(t, "/"+strings.Repeat("n", 70000), api.ErrName)
	ends(t, "/"+strings.Repeat("#41", 70000), api.ErrName)
}

func TestErrorsInTheirOrder(t *testing.T) { // P10.2: ErrMore ahead of what is wrong in a token whose end is not seen, and the token's first byte in all
	for s, e := range map[string]api.Errno{"/#": api.ErrName, "/a#0": api.ErrName, "/#zz": api.ErrName, "/#00": api.ErrName, "/" + strings.Repeat("n", 500): api.ErrName, "1.2.3": api.ErrForm, "-": api.ErrForm, "9999999999": api.ErrRange, "9999999999x": api.ErrForm} {
		ends(t, s, e)
	}
	nexts(t, "  (a) > ", 5, true, placed(lex.Token{}, 6, 6), api.ErrForm)
	nexts(t, "  (a)  /#1 ", 5, true, placed(lex.Token{}, 7, 7), api.ErrName)
	nexts(t, "  <41 zz", 0, true, placed(lex.Token{}, 2, 2), api.ErrForm)
	nexts(t, "  (a(b", 1, true, placed(lex.Token{}, 2, 2), api.ErrCut)
}

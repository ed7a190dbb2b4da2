package lex_test

import (
	"fmt"
	"math/rand/v2"
	"strings"
	"testing"

	"catchword/api"
	"catchword/lex"
)

// value and those below it are tokens without places, and placed one with them.
func value(v api.Value) lex.Token { return lex.Token{Kind: lex.Value, V: v} }
func whole(n int) lex.Token       { return value(api.Value{Kind: api.Int, N: n}) }
func millionths(n int) lex.Token  { return value(api.Value{Kind: api.Real, N: n}) }
func text(s string) lex.Token     { return value(api.Value{Kind: api.String, S: s}) }
func name(s string) lex.Token     { return value(api.Value{Kind: api.Name, S: s}) }
func word(s string) lex.Token     { return lex.Token{Kind: lex.Word, S: s} }
func bracket(kind int) lex.Token  { return lex.Token{Kind: kind} }

func placed(u lex.Token, from, to int) lex.Token {
	u.From, u.To = from, to
	return u
}

// stands asks that a text is a token, alone, with others ahead of it and behind it, and that it is told as soon as its end is seen.
func stands(t *testing.T, s string, want lex.Token) {
	t.Helper()
	n := len(s)
	nexts(t, s, 0, true, placed(want, 0, n), api.OK)
	if strings.ContainsAny(s[n-1:], "[]<>)") { // its end is seen
		nexts(t, s, 0, false, placed(want, 0, n), api.OK)
	} else {
		nexts(t, s, 0, false, lex.Token{}, api.ErrMore)
	}
	for _, ahead := range []string{" ", "\x00\t\n\f\r ", "%\n", "%\r", "% (a\n %<b\r\n\t"} {
		from := len(ahead)
		for _, asked := range []int{0, from} {
			nexts(t, ahead+s+" ", asked, true, placed(want, from, from+n), api.OK)
			nexts(t, ahead+s+" ", asked, false, placed(want, from, from+n), api.OK)
		}
	}
	for _, ahead := range []string{"1", "obj", "/N", "[", ">>", "(a)", "<</N ", "{", ")", "(", "%"} {
		from := len(ahead)
		nexts(t, ahead+s+"]", from, false, placed(want, from, from+n), api.OK)
	}
	for _, behind := range []string{" ", "\n", "\r", "\x00", "\t", "\f", "[", "]", "(", ")", "<", "> ", "{", "}", "/", "%", " >", "(a", "/b#", "%c"} {
		nexts(t, s+behind, 0, true, placed(want, 0, n), api.OK)
		nexts(t, s+behind, 0, false, placed(want, 0, n), api.OK)
	}
}

func TestExample(t *testing.T) { // P10.2, the chapter's example
	nexts(t, "/A#42c ]", 0, true, placed(name("ABc"), 0, 6), api.OK)
	nexts(t, "/A#42c ]", 0, false, placed(name("ABc"), 0, 6), api.OK)
	nexts(t, "/A#42c ]", 6, false, placed(bracket(lex.Close), 7, 8), api.OK)
}

func TestBrackets(t *testing.T) { // P10.2
	stands(t, "[", bracket(lex.Open))
	stands(t, "]", bracket(lex.Close))
	stands(t, "<<", bracket(lex.OpenDict))
	stands(t, ">>", bracket(lex.CloseDict))
	nexts(t, "<<<", 0, false, placed(bracket(lex.OpenDict), 0, 2), api.OK)
	nexts(t, "<<<", 1, false, placed(bracket(lex.OpenDict), 1, 3), api.OK)
	nexts(t, ">>>", 0, false, placed(bracket(lex.CloseDict), 0, 2), api.OK)
	nexts(t, ">>>", 2, true, placed(lex.Token{}, 2, 2), api.ErrForm)
	nexts(t, "[[]]", 1, false, placed(bracket(lex.Open), 1, 2), api.OK)
}

func TestTexts(t *testing.T) { // P10.2
	for s, want := range map[string]string{
		"()": "", "(a)": "a", "(hello)": "hello", "( a  b )": " a  b ", "(%a)": "%a", "(/[]<>{})": "/[]<>{}", "(\x00\x01\xff\x80)": "\x00\x01\xff\x80",
		"(())": "()", "(a(b)c)": "a(b)c", "((a)(b(c))d)": "(a)(b(c))d", "(()())": "()()", "(((())))": "((()))",
		`(\()`: "(", `(\))`: ")", `(\(\))`: "()", `(a\)b(c\(d)e)`: "a)b(c(d)e", `(\\)`: `\`, `(\\\\)`: `\\`, `(\\(a\\))`: `\(a\)`,
		`(\n\r\t\b\f)`: "\n\r\t\b\f", `(a\nb)`: "a\nb", `(\N\R\T\B\F)`: "NRTBF", `(\a\v\x\e\8\9\#\/\%)`: "avxe89#/%", "(\\ \\\t\\\x00\\\xff)": " \t\x00\xff", `(\\n)`: `\n`,
		`(\0)`: "\x00", `(\7)`: "\x07", `(\00)`: "\x00", `(\53)`: "+", `(\053)`: "+", `(\0053)`: "\x053", `(\53a)`: "+a", `(\1234)`: "S4", `(\19)`: "\x019", `(\128)`: "\n8", `(\18\18)`: "\x018\x018", `(\1\2\3)`: "\x01\x02\x03", `(\101\102)`: "AB",
		`(\377)`: "\xff", `(\400)`: "\x00", `(\401)`: "\x01", `(\777)`: "\xff", `(\700)`: "\xc0", `(\500)`: "@", `(\3777)`: "\xff7", `(\0000)`: "\x000", `(\1 1)`: "\x01 1", `(\1\)1)`: "\x01)1", `(\1(1))`: "\x01(1)",
		"(a\nb)": "a\nb", "(a\rb)": "a\nb", "(a\r\nb)": "a\nb", "(\r\r\n\n\r)": "\n\n\n\n", "(\n\r)": "\n\n", "(\r)": "\n", "(\r\n)": "\n", "(\r\r)": "\n\n",
		"(a\\\nb)": "ab", "(a\\\rb)": "ab", "(a\\\r\nb)": "ab", "(\\\n\n)": "\n", "(\\\r\r)": "\n", "(\\\n\r)": "\n", "(\\\r\n\n)": "\n", "(\\\r\n\r\n)": "\n", "(\\\r)": "", "(\\\n)": "", "(\\\r\\\n)": "", "(\\\\\r)": "\\\n", "(\\r\n)": "\r\n", "(\\r\\n)": "\r\n", "(\\15\n)": "\r\n", "(\\0\r\n)": "\x00\n",
		"(\v\f\t)": "\v\f\t",
	} {
		stands(t, s, text(want))
	}
	for c := range 256 { // each byte, alone and behind a \
		b := string([]byte{byte(c)})
		want, signed := b, b
		switch b {
		case "(", ")", "\\":
			want = ""
		case "\r":
			want, signed = "\n", ""
		case "\n":
			signed = ""
		case "n", "r", "t", "b", "f":
			signed = string("\n\r\t\b\f"[strings.Index("nrtbf", b)])
		case "0", "1", "2", "3", "4", "5", "6", "7":
			signed = string(rune(c - '0'))
		}
		stands(t, "(\\"+b+")", text(signed))
		if want != "" {
			stands(t, "("+b+")", text(want))
		}
	}
	for n := range 512 { // each number of three digits
		stands(t, fmt.Sprintf(`(\%03o)`, n), text(string([]byte{byte(n)})))
	}
}

func TestTextsInHex(t *testing.T) { // P10.2
	for s, want := range map[string]string{
		"<>": "", "<41>": "A", "<4142>": "AB", "<4a4B4c4D>": "JKLM", "<901FA3>": "\x90\x1f\xa3", "<00ff>": "\x00\xff", "<0123456789abcdefABCDEF>": "\x01\x23\x45\x67\x89\xab\xcd\xef\xab\xcd\xef",
		"<4>": "@", "<901FA>": "\x90\x1f\xa0", "<0>": "\x00", "<f>": "\xf0", "<410>": "A\x00",
		"< >": "", "< 41>": "A", "<41 >": "A", "<4 1>": "A", "< 4 1 4 2 >": "AB", "<90 1f a>": "\x90\x1f\xa0", "<\x00\t\n\f\r 4\x00\t\n\f\r 1\x00\t\n\f\r >": "A", "<4 >": "@", "<\n>": "",
	} {
		stands(t, s, text(want))
	}
	for c := range 256 {
		b := []byte{byte(c)}
		stands(t, fmt.Sprintf("<%x>", b), text(string(b)))
		stands(t, fmt.Sprintf("<%X>", b), text(string(b)))
		if strings.ContainsRune(spaces+"0123456789abcdefABCDEF>", rune(c)) {
			continue
		}
		for _, s := range []string{"<", "<4", "<41", "< ", "<4 "} { // at the first wrong byte, with an end and without
			if s+string(b) == "<<" {
				continue
			}
			for _, behind := range []string{"", ">", "1>", "<", "g"} {
				nexts(t, s+string(b)+behind, 0, true, lex.Token{}, api.ErrForm)
				nexts(t, s+string(b)+behind, 0, false, lex.Token{}, api.ErrForm)
			}
		}
	}
}

func TestNames(t *testing.T) { // P10.2
	for s, want := range map[string]string{
		"/": "", "/a": "a", "/Name": "Name", "/1": "1", "/-.5": "-.5", "/R": "R", "/A.B*c_d@e!$&'+,:;=?^`|~\"": "A.B*c_d@e!$&'+,:;=?^`|~\"", "/a\\b": "a\\b", "/\v\x08\x7f\x80\xff": "\v\x08\x7f\x80\xff",
		"/#41": "A", "/A#42c": "ABc", "/#4a#4B": "JK", "/a#20b": "a b", "/#23": "#", "/#2341": "#41", "/#41#42#43": "ABC", "/#ff#01": "\xff\x01", "/#2f": "/", "/#28#29": "()", "/a#0ab": "a\nb", "/#0D": "\r", "/#414": "A4",
	} {
		stands(t, s, name(want))
	}
	for c := range 256 {
		b := string([]byte{byte(c)})
		if c > 0 {
			stands(t, fmt.Sprintf("/x#%02xy", c), name("x"+b+"y"))
			stands(t, fmt.Sprintf("/#%02X", c), name(b))
		}
		switch {
		case strings.Contains(spaces, b) || strings.Contains("()<>[]{}/%", b):
			nexts(t, "/x"+b+"y", 0, false, placed(name("x"), 0, 2), api.OK)
		case c != '#':
			stands(t, "/x"+b+"y", name("x"+b+"y"))
		}
	}
	nexts(t, "//a ", 0, false, placed(name(""), 0, 1), api.OK)
	nexts(t, "//a ", 1, false, placed(name("a"), 1, 3), api.OK)
	nexts(t, "/a\x00b ", 0, false, placed(name("a"), 0, 2), api.OK)
}

func TestNumbers(t *testing.T) { // P10.2
	for s, n := range map[string]int{"0": 0, "7": 7, "007": 7, "12": 12, "+7": 7, "-17": -17, "2147483647": 1<<31 - 1, "-2147483647": 1 - 1<<31, "0000000000000000000001": 1, "-0": 0} {
		stands(t, s, whole(n))
	}
	for s, n := range map[string]int{".5": 500000, "-.002": -2000, "4.": 4000000, "+34.50": 34500000, "1.9999999": 1999999, "0.0": 0, "2147483647.0": (1<<31 - 1) * 1000000} {
		stands(t, s, millionths(n))
	}
}

func TestWords(t *testing.T) { // P10.2
	for _, s := range []string{"R", "obj", "endobj", "stream", "xref", "true", "false", "null", "n", "f", "e5", "a1", "a-1", "a.b", "#", "#41", "a#42", "\\", "\\n", "'", "\"", "*", ",", "_1", "!", "$", "@", "\v", "\x01", "\x7f", "\x80", "\xff\xfe", "\xc3\xa9", "startxref"} {
		stands(t, s, word(s))
	}
	for c := range 256 {
		if b := string([]byte{byte(c)}); !strings.Contains(spaces+"()<>[]{}/%", b) {
			stands(t, "x"+b, word("x"+b))
			if !strings.Contains("0123456789+-.", b) {
				stands(t, b, word(b))
				stands(t, b+"1", word(b+"1"))
			}
		}
	}
}

func TestTokensOfAllShortTexts(t *testing.T) { // P10.2
	seen := map[api.Errno]int{}
	each := func(s string) {
		_, e := agrees(t, s, 0)
		seen[e]++
	}
	texts("()[]<>{}/% \n#+.4aR\x00\\", 4, each)
	texts("()\\\r\n017n", 5, func(s string) { each("(" + s) })
	texts("4aF g\n><", 5, func(s string) { each("<" + s) })
	texts("#04aG /\x00", 5, func(s string) { each("/" + s) })
	texts("+-.04/ e", 5, each)
	texts("% \n\ra[", 5, each)
	for _, e := range []api.Errno{api.OK, api.ErrCut, api.ErrForm, api.ErrName} {
		if seen[e] < 1000 {
			t.Error(seen)
		}
	}
}

func TestTokensOfManyTexts(t *testing.T) { // P10.2: texts that are tokens, or nearly, by chance
	r := rand.New(rand.NewPCG(10, 2))
	pieces := []string{"(", ")", "<", ">", "<<", ">>", "[", "]", "{", "}", "/", "%", "#", "#41", "#00", "\\", "\\n", "\\1", "\\12", "\\123", "\\777", "\r", "\n", "\r\n", " ", "\x00", "\t", "\f", "12", "0", "+", "-", ".", "2147483648", "obj", "true", "R", "a", "F", "g", "Z", "\x80", "\xff", strings.Repeat("n", 126)}
	for range 100000 {
		var s strings.Builder
		for range r.IntN(12) {
			s.WriteString(pieces[r.IntN(len(pieces))])
		}
		agrees(t, s.String(), r.IntN(s.Len()+1))
	}
	for range 100000 {
		b := []byte{"(</ -"[r.IntN(5)]}
		for range r.IntN(8) {
			b = append(b, byte(r.Uint32()))
		}
		agrees(t, string(b)+")>"[:r.IntN(3)], 0)
	}
}

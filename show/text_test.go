package show_test

import (
	"fmt"
	"math/rand/v2"
	"strings"
	"testing"

	"catchword/api"
	"catchword/lex"
	"catchword/show"
)

func TestTexts(t *testing.T) { // P13.1
	for s, want := range map[string]string{
		"": "()", "plain": "(plain)", " ": "( )", "  a  b ": "(  a  b )", "~": "(~)", "%a/[]{}<>#": "(%a/[]{}<>#)", "0aff": "(0aff)", "12 0 R": "(12 0 R)", "null": "(null)", "<41>": "(<41>)",
		"(": "(\\()", ")": "(\\))", "()": "(\\(\\))", ")(": "(\\)\\()", "(()": "(\\(\\(\\))", "a(b(c)d)e": "(a\\(b\\(c\\)d\\)e)", "((a)": "(\\(\\(a\\))", "(a))": "(\\(a\\)\\))",
		"\\": "(\\\\)", "\\\\": "(\\\\\\\\)", "\\(": "(\\\\\\()", "\\)": "(\\\\\\))", "a\\": "(a\\\\)", "\\n": "(\\\\n)", "\\101": "(\\\\101)", "a(b)\\": "(a\\(b\\)\\\\)",
		"\n": "<0a>", "\r": "<0d>", "\t": "<09>", "\x00": "<00>", "\x0a\xff": "<0aff>", "(\n": "<280a>", "\\\x00)": "<5c0029>", "\xc3\xa9": "<c3a9>", "e\xc3\xa9\\": "<65c3a95c>", "\xff\xfe": "<fffe>", "\xc3": "<c3>", "\xef\xbf\xbd": "<efbfbd>", "\x7f": "<7f>", "\x01\x23\x45\x67\x89\xab\xcd\xef": "<0123456789abcdef>",
	} {
		tells(t, s, want)
	}
}

func TestTextsOfEachByte(t *testing.T) { // P13.1
	for c := range 256 {
		s := string([]byte{byte(c)})
		tells(t, s, textPlainly(s))
		for _, ahead := range []string{"", "a", "(", "\\", "ab c", "\x80"} {
			for _, behind := range []string{"", "a", ")", "\\", "12", "\n"} {
				agrees(t, text(ahead+s+behind))
			}
		}
	}
}

func TestTextsAtTheBounds(t *testing.T) { // P13.1: bytes just within and just outside 32 to 126, first, in the middle and last
	for c, within := range map[string]bool{"\x1f": false, "\x20": true, "\x7e": true, "\x7f": false, "\x80": false, "\x00": false, "\xff": false} {
		for _, s := range []string{c + "abc", "ab" + c + "cd", "abc" + c, c, c + c, c + "a" + c} {
			if within {
				tells(t, s, "("+s+")")
			} else {
				tells(t, s, fmt.Sprintf("<%x>", s))
			}
		}
	}
	tells(t, "\x1f\x20", "<1f20>")
	tells(t, "\x7e\x7f", "<7e7f>")
	tells(t, "\x20\x7e", "( ~)")
}

func TestAllShortTexts(t *testing.T) { // P13.1, P13.2: each byte behind each one
	for a := range 256 {
		for b := range 256 {
			agrees(t, text(string([]byte{byte(a), byte(b)})))
		}
	}
	for _, s := range []string{"()\\n0", "(\\\x1f ~", "<>4a\x80"} {
		var put func(ahead string)
		put = func(ahead string) {
			agrees(t, text(ahead))
			for i := range len(s) {
				if len(ahead) < 5 {
					put(ahead + s[i:i+1])
				}
			}
		}
		put("")
	}
}

func TestLongTexts(t *testing.T) { // P13.1, and R1
	for _, n := range []int{100, 65536, api.MaxData} {
		s := strings.Repeat("a", n)
		for long, want := range map[string]string{s: "(" + s + ")", s + "(": "(" + s + "\\()", s + "\n": "<" + strings.Repeat("61", n) + "0a>", "\n" + s: "<0a" + strings.Repeat("61", n) + ">"} {
			if got := show.Text(long); got != want {
				t.Errorf("a text of %d bytes: %.50q", len(long), got)
			}
			if got := show.Length(text(long)); got != len(want) {
				t.Errorf("a text of %d bytes: %d", len(long), got)
			}
		}
	}
}

func TestNames(t *testing.T) { // P13.1
	for s, want := range map[string]string{
		"": "/", "A": "/A", "Type": "/Type", "null": "/null", "R": "/R", "1": "/1", "-.5": "/-.5", "!": "/!", "~": "/~", "!~": "/!~", "a\\b": "/a\\b", "A.B*c_d@e!$&'+,:;=?^`|~\"": "/A.B*c_d@e!$&'+,:;=?^`|~\"",
		" ": "/#20", "A b#/": "/A#20b#23#2f", "#": "/#23", "#41": "/#2341", "##": "/#23#23", "()<>[]{}/%": "/#28#29#3c#3e#5b#5d#7b#7d#2f#25",
		"\x01": "/#01", "\n": "/#0a", "\r\n": "/#0d#0a", "\x1f": "/#1f", "\x7f": "/#7f", "\x80": "/#80", "\xff": "/#ff", "\xc3\xa9t\xc3\xa9": "/#c3#a9t#c3#a9", "A\xabB": "/A#abB",
	} {
		names(t, s, want)
	}
}

func TestNamesOfEachByte(t *testing.T) { // P13.1: of two digits are those that are not from 33 to 126, # and delimiters
	for c := 1; c < 256; c++ {
		s := string([]byte{byte(c)})
		want := s
		if c < 33 || c > 126 || c == '#' || lex.Delim(byte(c)) {
			want = fmt.Sprintf("#%02x", c)
		}
		names(t, s, "/"+want)
		names(t, s+"a", "/"+want+"a")
		names(t, "a"+s, "/a"+want)
		names(t, "4"+s+"1", "/4"+want+"1")
		names(t, s+s, "/"+want+want)
	}
}

func TestLongNames(t *testing.T) { // P13.1: of 127 bytes, of 127 that all are two digits, and of 128
	for s, want := range map[string]string{"n": "n", "#": "#23", " ": "#20", "\xff": "#ff", "\x01": "#01", "/": "#2f", "~": "~"} {
		for _, n := range []int{1, 42, 126, 127} {
			names(t, strings.Repeat(s, n), "/"+strings.Repeat(want, n))
		}
		for _, n := range []int{128, 129, 65536} {
			refusesName(t, strings.Repeat(s, n))
		}
	}
	names(t, strings.Repeat("n", 126)+"#", "/"+strings.Repeat("n", 126)+"#23")
	refusesName(t, strings.Repeat("n", 127)+"#")
	refusesName(t, strings.Repeat("\xc3\xa9", 64)) // what counts is bytes
	names(t, strings.Repeat("\xc3\xa9", 63), "/"+strings.Repeat("#c3#a9", 63))
}

func TestNamesWithTheByte0(t *testing.T) { // P13.1
	for _, s := range []string{"\x00", "a\x00", "\x00a", "a\x00b", "\x00\x00", "#\x00", " \x00", strings.Repeat("n", 126) + "\x00", strings.Repeat("n", 127) + "\x00"} {
		refusesName(t, s)
	}
}

// refusesName asks that a name has no form, by itself, as a value, and within others.
func refusesName(t *testing.T, s string) {
	t.Helper()
	if f, e := show.Name(s); f != "" || e != api.ErrName {
		t.Errorf("Name(%.300q): %.300q, %v", s, f, e)
	}
	refuses(t, name(s), api.ErrName)
	refuses(t, array(whole(1), name(s)), api.ErrName)
	refuses(t, dict(name(s), null()), api.ErrName)
	refuses(t, dict(name("A"), name(s)), api.ErrName)
}

func TestManyNames(t *testing.T) { // P13.1: by chance
	r := rand.New(rand.NewPCG(13, 2))
	for range 50000 {
		b := make([]byte, r.IntN(140)>>r.IntN(7))
		for i := range b {
			b[i] = byte(1 + r.IntN(255))
		}
		if s := string(b); len(s) > 127 {
			refusesName(t, s)
		} else {
			names(t, s, namePlainly(s))
		}
	}
}

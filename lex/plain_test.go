package lex_test

import (
	"regexp"
	"strconv"
	"strings"
	"testing"

	"catchword/api"
	"catchword/lex"
	"catchword/num"
)

// The chapter's words as patterns, over texts that have a rune for each byte.
const (
	spaces  = "\x00\t\n\f\r "
	hexes   = "0-9a-fA-F"
	regular = "[^\x00\t\n\f\r ()<>\\[\\]{}/%]"
)

var (
	skipped  = regexp.MustCompile("^(?:[" + spaces + "]|%[^\n\r]*)*")
	run      = regexp.MustCompile("^" + regular + "*")
	piece    = regexp.MustCompile(`^(?s:\\[0-7]{1,3}|\\` + "\r\n" + `|\\.|` + "\r\n" + `|.)`)
	hexWhole = regexp.MustCompile("^<([" + spaces + hexes + "]*)>")
	hexCut   = regexp.MustCompile("^<[" + spaces + hexes + "]*$")
	nameGood = regexp.MustCompile("^(?:[^#]|#[" + hexes + "]{2})*$")
	coded    = regexp.MustCompile("#..")
	numeric  = regexp.MustCompile("^[0-9+.-]")
	signs    = strings.NewReplacer(`\n`, "\n", `\r`, "\r", `\t`, "\t", `\b`, "\b", `\f`, "\f")
)

// runes has a rune for each byte, chars a byte for each of those.
func runes(b []byte) string {
	l := make([]rune, len(b))
	for i, c := range b {
		l[i] = rune(c)
	}
	return string(l)
}

func chars(s string) string {
	var b []byte
	for _, r := range s {
		b = append(b, byte(r))
	}
	return string(b)
}

// size is how many bytes the runes stand for.
func size(s string) int { return len([]rune(s)) }

// plainly is Next by the chapter's words.
func plainly(b []byte, at int, last bool) (lex.Token, api.Errno) {
	if at < 0 || at > len(b) {
		return lex.Token{}, api.ErrArg
	}
	s := runes(b[at:])
	ahead := skipped.FindString(s)
	from := at + size(ahead)
	t, n, e := token(s[len(ahead):], last)
	if e != api.OK {
		return lex.Token{From: from, To: from}, e
	}
	t.From, t.To = from, from+n
	return t, api.OK
}

// token is the token that begins a text, and how many bytes it has.
func token(s string, last bool) (lex.Token, int, api.Errno) {
	atEnd := func(e api.Errno) (lex.Token, int, api.Errno) {
		if last {
			return lex.Token{}, 0, e
		}
		return lex.Token{}, 0, api.ErrMore
	}
	switch {
	case s == "":
		return atEnd(api.OK)
	case s == "<":
		return atEnd(api.ErrCut)
	case s == ">":
		return atEnd(api.ErrForm)
	case s[0] == '[':
		return lex.Token{Kind: lex.Open}, 1, api.OK
	case s[0] == ']':
		return lex.Token{Kind: lex.Close}, 1, api.OK
	case strings.HasPrefix(s, "<<"):
		return lex.Token{Kind: lex.OpenDict}, 2, api.OK
	case strings.HasPrefix(s, ">>"):
		return lex.Token{Kind: lex.CloseDict}, 2, api.OK
	case strings.ContainsAny(s[:1], ")>{}"):
		return lex.Token{}, 0, api.ErrForm
	case s[0] == '(':
		text, n := brackets(s)
		if n == 0 {
			return atEnd(api.ErrCut)
		}
		return valued(api.String, text), n, api.OK
	case s[0] == '<' && hexCut.MatchString(s):
		return atEnd(api.ErrCut)
	case s[0] == '<':
		m := hexWhole.FindStringSubmatch(s)
		if m == nil {
			return lex.Token{}, 0, api.ErrForm
		}
		return valued(api.String, pairs(m[1])), size(m[0]), api.OK
	}
	return bare(s, last)
}

// bare is a name, a number or a word.
func bare(s string, last bool) (lex.Token, int, api.Errno) {
	first := strings.TrimPrefix(s, "/")
	r := run.FindString(first)
	n := size(r) + len(s) - len(first)
	switch {
	case len(r) == len(first) && !last:
		return lex.Token{}, 0, api.ErrMore
	case s[0] == '/':
		name := chars(coded.ReplaceAllStringFunc(r, func(c string) string {
			x, _ := strconv.ParseUint(c[1:], 16, 8)
			return string(rune(x))
		}))
		if !nameGood.MatchString(r) || strings.Contains(r, "#00") || len(name) > 127 {
			return lex.Token{}, 0, api.ErrName
		}
		return valued(api.Name, name), n, api.OK
	case numeric.MatchString(r):
		v, e := num.Parse(chars(r))
		return lex.Token{Kind: lex.Value, V: v}, n, e
	}
	return lex.Token{Kind: lex.Word, S: chars(r)}, n, api.OK
}

// brackets is the text that begins a text, and how many bytes it stands for: 0, if it is not closed.
func brackets(s string) (string, int) {
	var text strings.Builder
	open, n := 0, 0
	for s != "" {
		p := piece.FindString(s)
		s, n = s[len(p):], n+size(p)
		switch {
		case p == "(":
			open++
		case p == ")":
			open--
		}
		if open == 0 {
			return chars(text.String())[1:], n
		}
		switch {
		case p == "\r" || p == "\r\n":
			p = "\n"
		case p == "\\\n" || p == "\\\r" || p == "\\\r\n":
			p = ""
		case len(p) > 1 && p[0] == '\\' && '0' <= p[1] && p[1] <= '7':
			x, _ := strconv.ParseUint(p[1:], 8, 16)
			p = string(rune(x % 256))
		case len(p) > 1 && p[0] == '\\':
			p = strings.TrimPrefix(signs.Replace(p), "\\")
		}
		text.WriteString(p)
	}
	return "", 0
}

// pairs are the bytes of digits to the base 16.
func pairs(s string) string {
	s = strings.Map(func(r rune) rune {
		if strings.ContainsRune(spaces, r) {
			return -1
		}
		return r
	}, s) + "0"
	var b []byte
	for ; len(s) > 1; s = s[2:] {
		x, _ := strconv.ParseUint(s[:2], 16, 8)
		b = append(b, byte(x))
	}
	return string(b)
}

// valued is a text, or a name, as a token without places.
func valued(kind int, s string) lex.Token {
	return lex.Token{Kind: lex.Value, V: api.Value{Kind: kind, S: s}}
}

// alike tells whether two tokens are the same in each field.
func alike(a, b lex.Token) bool {
	return a.Kind == b.Kind && a.From == b.From && a.To == b.To && a.S == b.S && a.V.Kind == b.V.Kind && a.V.N == b.V.N && a.V.S == b.V.S && len(a.V.L) == 0 && len(b.V.L) == 0
}

// few ends a test that has told enough: where one answer is wrong, thousands may be.
func few(t *testing.T) {
	t.Helper()
	if t.Failed() {
		t.FailNow()
	}
}

// nexts asks for Next's answer.
func nexts(t *testing.T, s string, at int, last bool, want lex.Token, e api.Errno) {
	t.Helper()
	if x, got := lex.Next([]byte(s), at, last); !alike(x, want) || got != e {
		t.Errorf("Next(%.60q, %d, %v), of %d bytes: %+v, %v, want %+v, %v", s, at, last, len(s), x, got, want, e)
	}
}

// agrees asks that Next answers what the chapter's words say, whether b's end is the file's or not, and tells what comes where it is.
func agrees(t *testing.T, s string, at int) (lex.Token, api.Errno) {
	t.Helper()
	want, e := plainly([]byte(s), at, false)
	nexts(t, s, at, false, want, e)
	want, e = plainly([]byte(s), at, true)
	nexts(t, s, at, true, want, e)
	few(t)
	return want, e
}

// texts hands all texts of at most n bytes of those to a function.
func texts(of string, n int, each func(string)) {
	l := []string{""}
	for ; n >= 0; n-- {
		var longer []string
		for _, s := range l {
			each(s)
			for i := range of {
				longer = append(longer, s+of[i:i+1])
			}
		}
		l = longer
	}
}

package lex

import (
	"strings"

	"catchword/api"
	"catchword/num"
)

// reader goes through a file's bytes, and puts together what a text, or a name, is.
type reader struct {
	strings.Builder
	b    []byte
	at   int
	last bool
}

// token is the token whose first byte is the next one, without its places.
func (r *reader) token() (Token, api.Errno) {
	c, ok := r.take()
	if !ok {
		return Token{Kind: End}, r.cut(api.OK)
	}
	switch c {
	case '[':
		return Token{Kind: Open}, api.OK
	case ']':
		return Token{Kind: Close}, api.OK
	case '(':
		return valued(r.text())
	case '<':
		if r.pass('<') {
			return Token{Kind: OpenDict}, api.OK
		}
		return valued(r.hex())
	case '>':
		return r.closeDict()
	case '/':
		return valued(r.name())
	case ')', '{', '}':
		return Token{}, api.ErrForm
	}
	r.at-- // the byte is one of the number's, or of the word's, too
	return r.bare()
}

// valued is a value as a token.
func valued(v api.Value, e api.Errno) (Token, api.Errno) { return Token{Kind: Value, V: v}, e }

// built is what was put together, as a value of a kind.
func (r *reader) built(kind int) (api.Value, api.Errno) {
	return api.Value{Kind: kind, S: r.String()}, api.OK
}

// take is the next byte, and whether there is one.
func (r *reader) take() (byte, bool) {
	if r.at == len(r.b) {
		return 0, false
	}
	r.at++
	return r.b[r.at-1], true
}

// pass goes over the next byte, if it is that one.
func (r *reader) pass(c byte) bool {
	if r.at == len(r.b) || r.b[r.at] != c {
		return false
	}
	r.at++
	return true
}

// cut is what is told where a token goes up to the end: e, if nothing more may come.
func (r *reader) cut(e api.Errno) api.Errno {
	if !r.last {
		return api.ErrMore
	}
	return e
}

// closeDict is the token behind whose first > the next byte stands.
func (r *reader) closeDict() (Token, api.Errno) {
	if r.pass('>') {
		return Token{Kind: CloseDict}, api.OK
	}
	if r.at == len(r.b) {
		return Token{}, r.cut(api.ErrForm)
	}
	return Token{}, api.ErrForm
}

// text is the text behind whose first bracket the next byte stands.
func (r *reader) text() (api.Value, api.Errno) {
	open := 1
next:
	c, ok := r.take()
	if !ok {
		goto cut
	}
	switch c {
	case '\\':
		goto sign
	case '(':
		open++
	case ')':
		open--
	case 13:
		r.pass(10)
		c = 10
	}
	if open == 0 {
		return r.built(api.String)
	}
	r.WriteByte(c)
	goto next
sign:
	c, ok = r.take()
	switch {
	case !ok:
		goto cut
	case c == 13:
		r.pass(10)
		goto next
	case c == 10:
		goto next
	case '0' <= c && c <= '7':
		r.WriteByte(r.octal(c - '0'))
		goto next
	}
	r.WriteByte(meant(c))
	goto next
cut:
	return api.Value{}, r.cut(api.ErrCut)
}

// octal is the byte of a number to the base 8 whose first digit was taken: its bits above the lowest eight fall out.
func (r *reader) octal(x byte) byte {
	for range 2 {
		if r.at == len(r.b) || r.b[r.at] < '0' || r.b[r.at] > '7' {
			break
		}
		x = 8*x + (r.b[r.at] - '0')
		r.at++
	}
	return x
}

// meant is what a byte behind a \ is, if it is no digit to the base 8, and ends no line.
func meant(c byte) byte {
	switch c {
	case 'n':
		return 10
	case 'r':
		return 13
	case 't':
		return 9
	case 'b':
		return 8
	case 'f':
		return 12
	}
	return c
}

// hex is the text in hex behind whose < the next byte stands.
func (r *reader) hex() (api.Value, api.Errno) {
	odd, high := false, byte(0)
next:
	c, ok := r.take()
	if !ok {
		return api.Value{}, r.cut(api.ErrCut)
	}
	d, ok := digit(c)
	switch {
	case Space(c):
		goto next
	case c == '>':
		goto end
	case !ok:
		return api.Value{}, api.ErrForm
	case odd:
		r.WriteByte(high | d)
	}
	odd, high = !odd, d<<4
	goto next
end:
	if odd {
		r.WriteByte(high)
	}
	return r.built(api.String)
}

// digit is what a digit to the base 16 counts, and whether it is one.
func digit(c byte) (byte, bool) {
	switch {
	case '0' <= c && c <= '9':
		return c - '0', true
	case 'a' <= c && c <= 'f':
		return c - 'a' + 10, true
	case 'A' <= c && c <= 'F':
		return c - 'A' + 10, true
	}
	return 0, false
}

// run takes the regular bytes that follow one another.
func (r *reader) run() (string, api.Errno) {
	from, e := r.at, api.OK
next:
	if r.at == len(r.b) {
		e = r.cut(api.OK)
	} else if c := r.b[r.at]; !Space(c) && !Delim(c) {
		r.at++
		goto next
	}
	return string(r.b[from:r.at]), e
}

// bare is the number, or the word, whose first byte is the next one.
func (r *reader) bare() (Token, api.Errno) {
	s, e := r.run()
	if e != api.OK {
		return Token{}, e
	}
	if strings.ContainsRune("0123456789+-.", rune(s[0])) {
		return valued(num.Parse(s))
	}
	return Token{Kind: Word, S: s}, api.OK
}

// name is the name behind whose / the next byte stands.
func (r *reader) name() (api.Value, api.Errno) {
	s, e := r.run()
	if e != api.OK {
		return api.Value{}, e
	}
next:
	plain, coded, found := strings.Cut(s, "#")
	r.WriteString(plain)
	if found {
		c, ok := code(coded)
		if !ok {
			return api.Value{}, api.ErrName
		}
		r.WriteByte(c)
		s = coded[2:]
		goto next
	}
	if r.Len() > api.MaxName {
		return api.Value{}, api.ErrName
	}
	return r.built(api.Name)
}

// code is the byte of the two digits to the base 16 that stand behind a name's #, and whether it may be.
func code(s string) (byte, bool) {
	if len(s) < 2 {
		return 0, false
	}
	high, ok := digit(s[0])
	low, too := digit(s[1])
	c := high<<4 | low
	return c, ok && too && c != 0
}

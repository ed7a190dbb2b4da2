package show

import (
	"strconv"
	"strings"

	"catchword/api"
	"catchword/lex"
	"catchword/num"
	"catchword/value"
)

// form puts a form together.
type form struct{ strings.Builder }

// value puts the form of a value that may be.
func (f *form) value(v api.Value) {
	switch v.Kind {
	case api.Null:
		f.WriteString("null")
	case api.Bool:
		f.WriteString(strconv.FormatBool(v.N == 1))
	case api.Int, api.Real:
		f.number(v)
	case api.String:
		f.text(v.S)
	case api.Name:
		f.name(v.S)
	case api.Array:
		f.WriteString("[")
		f.list(v.L)
		f.WriteString("]")
	case api.Dict:
		f.WriteString("<<")
		f.list(v.L) // a blank stands between a name and its value, too
		f.WriteString(">>")
	case api.Ref:
		f.number(value.IntOf(v.N))
		f.WriteString(" 0 R")
	}
}

// number puts the form of a number that may be.
func (f *form) number(v api.Value) {
	s, _ := num.Print(v)
	f.WriteString(s)
}

// list puts the forms of values, with a blank between.
func (f *form) list(l []api.Value) {
	for i, v := range l {
		if i > 0 {
			f.WriteByte(' ')
		}
		f.value(v)
	}
}

// name puts the form of a name that may be.
func (f *form) name(s string) {
	f.WriteByte('/')
	for _, c := range []byte(s) {
		if c < '!' || c > '~' || c == '#' || lex.Delim(c) {
			f.WriteByte('#')
			f.digits(c)
		} else {
			f.WriteByte(c)
		}
	}
}

// text puts a text's form.
func (f *form) text(s string) {
	// A byte above 127 is, or is part of, a rune above 126, also where it makes none.
	if strings.ContainsFunc(s, func(r rune) bool { return r < ' ' || r > '~' }) {
		f.hex(s)
	} else {
		f.plain(s)
	}
}

// plain puts a text in brackets.
func (f *form) plain(s string) {
	f.WriteByte('(')
	for _, c := range []byte(s) {
		switch c {
		case '(', ')', '\\':
			f.WriteByte('\\')
		}
		f.WriteByte(c)
	}
	f.WriteByte(')')
}

// hex puts a text by its bytes' digits.
func (f *form) hex(s string) {
	f.WriteByte('<')
	for _, c := range []byte(s) {
		f.digits(c)
	}
	f.WriteByte('>')
}

// digits puts a byte's two digits to the base 16.
func (f *form) digits(c byte) {
	const all = "0123456789abcdef"
	f.WriteByte(all[c>>4])
	f.WriteByte(all[c&15])
}

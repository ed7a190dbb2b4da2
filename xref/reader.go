package xref

import (
	"catchword/api"
	"catchword/lex"
	"catchword/num"
	"catchword/parse"
)

// Where the parts of an entry stand in its line, and how many bytes of that are read: one more, if there is, is space ahead of what follows.
const (
	genAt    = placeDigits + 1
	thereAt  = genAt + genDigits + 1
	lineRead = thereAt + 2
)

// place is where something stands in bytes, the last of which may be the file's.
type place struct {
	b    []byte
	at   int
	last bool
}

// ended is the error where a byte is needed behind the last one.
func (p place) ended() api.Errno {
	if p.last {
		return api.ErrCut
	}
	return api.ErrMore
}

// reader goes on from its place, up to the first error, which it keeps.
type reader struct {
	place
	e api.Errno
}

// ask wants that something holds.
func (r *reader) ask(holds bool) {
	if r.e == api.OK && !holds {
		r.e = api.ErrXref
	}
}

// word goes over that word.
func (r *reader) word(s string) {
	if r.e == api.OK {
		r.at, r.e = parse.Word(r.b, r.at, r.last, s)
	}
}

// token goes over a token, where one must stand.
func (r *reader) token() lex.Token {
	if r.e != api.OK {
		return lex.Token{}
	}
	t, e := lex.Next(r.b, r.at, r.last)
	if e == api.OK && t.Kind == lex.End {
		e = api.ErrCut
	}
	r.at, r.e = t.To, e
	return t
}

// whole is the whole number that a token must be.
func (r *reader) whole(t lex.Token) int {
	r.ask(t.V.Kind == api.Int)
	return t.V.N
}

// groups goes over all groups, and the word behind them.
func (r *reader) groups() []api.Group {
	var l []api.Group
	for r.e == api.OK {
		t := r.token()
		if t.Kind == lex.Word && t.S == "trailer" {
			break
		}
		first := r.whole(t)
		count := r.whole(r.token())
		r.ask(len(l) < MostGroups && fits(first, count))
		l = append(l, api.Group{First: first, Entries: r.entries(count)})
	}
	return l
}

// entries goes over so many entries.
func (r *reader) entries(count int) []api.Entry {
	var l []api.Entry
	for r.e == api.OK && len(l) < count {
		r.space()
		l = append(l, r.entry())
	}
	return l
}

// space goes over space alone: what looks like a comment is none among entries.
func (r *reader) space() {
	for r.at < len(r.b) && lex.Space(r.b[r.at]) {
		r.at++
	}
}

// entry goes over what is read of an entry's line. Too few bytes are told ahead of wrong ones.
func (r *reader) entry() api.Entry {
	if len(r.b)-r.at < lineRead {
		r.e = r.ended()
		return api.Entry{}
	}
	line := string(r.b[r.at : r.at+lineRead])
	r.at += lineRead
	at, e := num.Digits(line[:placeDigits])
	gen, f := num.Digits(line[genAt : genAt+genDigits])
	there := line[thereAt : thereAt+1]
	r.ask(e == api.OK && f == api.OK && gen <= mostGen)
	r.ask(line[genAt-1] == ' ' && line[thereAt-1] == ' ')
	r.ask(there == used || there == free)
	r.ask(endsLine(line[lineRead-1]))
	return api.Entry{At: at, Gen: gen, Used: there == used}
}

// endsLine asks whether a byte may stand behind an entry.
func endsLine(c byte) bool { return c == ' ' || c == '\n' || c == '\r' }

// dict goes over a value, and wants it to be a dictionary.
func (r *reader) dict() api.Value {
	if r.e != api.OK {
		return api.Value{}
	}
	var v api.Value
	v, r.at, r.e = parse.Value(r.b, r.at, r.last)
	r.ask(v.Kind == api.Dict)
	return v
}

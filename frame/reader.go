package frame

import (
	"catchword/api"
	"catchword/lex"
	"catchword/parse"
	"catchword/value"
	"catchword/zlib"
)

// place is where something stands in bytes, the last of which may be the file's.
type place struct {
	b    []byte
	at   int
	last bool
}

// ended is the error where a byte is needed behind the last one.
func (p place) ended() api.Errno {
	if p.last {
		return api.ErrCut
	}
	return api.ErrMore
}

// reader goes on from its place, up to the first error, which it keeps.
type reader struct {
	place
	e api.Errno
}

// ask wants that something holds.
func (r *reader) ask(holds bool) {
	if r.e == api.OK && !holds {
		r.e = api.ErrFrame
	}
}

// number goes over a whole number, and wants it to be from least to most.
func (r *reader) number(least, most int) int {
	if r.e != api.OK {
		return 0
	}
	var n int
	n, r.at, r.e = parse.Number(r.b, r.at, r.last)
	r.ask(n >= least && n <= most)
	return n
}

// word goes over that word.
func (r *reader) word(s string) {
	if r.e == api.OK {
		r.at, r.e = parse.Word(r.b, r.at, r.last, s)
	}
}

// value goes over a value.
func (r *reader) value() api.Value {
	var v api.Value
	if r.e == api.OK {
		v, r.at, r.e = parse.Value(r.b, r.at, r.last)
	}
	return v
}

// object goes over what stands behind the word obj.
func (r *reader) object() api.Object {
	v := r.value()
	if r.behind() == "stream" {
		return r.stream(v)
	}
	return Object(v)
}

// behind goes over the word behind a value, which says what the object is.
func (r *reader) behind() string {
	if r.e != api.OK {
		return ""
	}
	t, e := lex.Next(r.b, r.at, r.last)
	if e == api.OK && t.Kind == lex.End {
		e = api.ErrCut
	}
	r.at, r.e = t.To, e
	r.ask(t.Kind == lex.Word && (t.S == "endobj" || t.S == "stream"))
	return t.S
}

// stream goes over what stands behind the word stream.
func (r *reader) stream(v api.Value) api.Object {
	n, packed := r.head(v)
	r.newline()
	b := r.bytes(n)
	r.word("endstream")
	r.word("endobj")
	if packed { // asked last, as errors behind the bytes come ahead of those in them
		b = r.unpack(b)
	}
	return Stream(value.Drop(value.Drop(v, lengthName), filterName), string(b))
}

// head is what a stream's dictionary says: how many bytes follow, and whether they are packed.
func (r *reader) head(v api.Value) (int, bool) {
	n, _ := value.Get(v, lengthName) // no Dict has none
	r.ask(n.Kind == api.Int && n.N >= 0 && n.N <= api.MaxData)
	_, parms := value.Get(v, parmsName)
	r.ask(!parms)
	filter, packed := value.Get(v, filterName)
	r.ask(!packed || isFlate(filter))
	return n.N, packed
}

// isFlate asks whether a filter is the one way of packing, alone or in an Array.
func isFlate(v api.Value) bool {
	if v.Kind == api.Array && len(v.L) == 1 {
		v = v.L[0]
	}
	return value.Same(v, value.NameOf(flate))
}

// newline goes over the byte 10, or 13 and 10.
func (r *reader) newline() {
	b := r.bytes(1)
	if string(b) == "\r" {
		b = r.bytes(1)
	}
	r.ask(string(b) == "\n")
}

// bytes goes over so many bytes.
func (r *reader) bytes(n int) []byte {
	if r.e == api.OK && n > len(r.b)-r.at {
		r.e = r.ended()
	}
	if r.e != api.OK {
		return nil
	}
	from := r.at
	r.at += n
	return r.b[from:r.at]
}

// unpack unpacks a stream's bytes.
func (r *reader) unpack(b []byte) []byte {
	if r.e != api.OK {
		return nil
	}
	data, _, e := zlib.Unpack(b, api.MaxData)
	r.ask(e == api.OK)
	return data
}

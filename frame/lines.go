package frame

import (
	"bytes"

	"catchword/api"
	"catchword/deflate"
	"catchword/show"
	"catchword/value"
	"catchword/zlib"
)

// lines puts an object's bytes together.
type lines struct{ bytes.Buffer }

// line puts texts, and a byte 10 behind them.
func (l *lines) line(texts ...string) {
	for _, s := range texts {
		l.WriteString(s)
	}
	l.WriteByte('\n')
}

// object puts an object that may be.
func (l *lines) object(n int, o api.Object, packed bool) {
	l.line(form(value.IntOf(n)), " 0 obj")
	if o.Stream {
		l.stream(o, packed)
	} else {
		l.line(form(o.V))
	}
	l.line("endobj")
}

// stream puts a stream's dictionary and its bytes.
func (l *lines) stream(o api.Object, packed bool) {
	v, data := o.V, o.Data
	if packed {
		v = value.Put(v, filterName, value.NameOf(flate))
		data = pack(data)
	}
	l.line(form(value.Put(v, lengthName, value.IntOf(len(data)))))
	l.line("stream")
	l.line(data)
	l.line("endstream")
}

// form is the form of a value that may be.
func form(v api.Value) string {
	s, _ := show.Value(v)
	return s
}

// pack packs data that may be, of which there is no error.
func pack(data string) string {
	b, _ := zlib.Pack([]byte(data), deflate.Least)
	return string(b)
}

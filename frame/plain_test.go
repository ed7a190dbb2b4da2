package frame_test

import (
	"fmt"
	"math/rand/v2"
	"slices"
	"strings"
	"testing"

	"catchword/api"
	"catchword/frame"
	"catchword/lex"
	"catchword/parse"
	"catchword/show"
	"catchword/value"
	"catchword/zlib"
)

// most is the greatest whole number.
const most = 1<<31 - 1

// Values by their Kinds, and streams, as tests write them.
func null() api.Value                { return api.Value{} }
func truth(n int) api.Value          { return api.Value{Kind: api.Bool, N: n} }
func whole(n int) api.Value          { return api.Value{Kind: api.Int, N: n} }
func millionths(n int) api.Value     { return api.Value{Kind: api.Real, N: n} }
func text(s string) api.Value        { return api.Value{Kind: api.String, S: s} }
func name(s string) api.Value        { return api.Value{Kind: api.Name, S: s} }
func array(l ...api.Value) api.Value { return api.Value{Kind: api.Array, L: l} }
func dict(l ...api.Value) api.Value  { return api.Value{Kind: api.Dict, L: l} }
func ref(n int) api.Value            { return api.Value{Kind: api.Ref, N: n} }
func plain(v api.Value) api.Object   { return api.Object{V: v} }
func stream(s string, l ...api.Value) api.Object {
	return api.Object{V: dict(l...), Stream: true, Data: s}
}

// nested puts a value into so many Arrays.
func nested(v api.Value, n int) api.Value {
	for range n {
		v = array(v)
	}
	return v
}

// goodValues are values that may be, of each Kind.
func goodValues() []api.Value {
	return []api.Value{null(), truth(0), truth(1), whole(0), whole(7), whole(-most), whole(most), millionths(0), millionths(500000), millionths(-7250000), text(""), text("a(b)\\"), text("endobj"), text("\x00\n"), name(""), name("A"), name("A b"), name("stream"), name(strings.Repeat("n", 127)), array(), array(whole(1), whole(0), name("R")), array(array(), dict()), nested(null(), 63), dict(), dict(name("A"), whole(7)), dict(name("A"), array(ref(3), null()), name("B"), dict(name("Length"), whole(3))), ref(1), ref(4096)}
}

// reading has a file's bytes, and where it is in them. Its calls end it by a panic.
type reading struct {
	s    string
	at   int
	last bool
}

// stop ends a reading.
type stop api.Errno

// must ends a reading where something does not hold.
func must(holds bool, e api.Errno) {
	if !holds {
		panic(stop(e))
	}
}

// plainly is Parse by the chapter's words.
func plainly(s string, at int, last bool) (n int, o api.Object, to int, e api.Errno) {
	r := &reading{s, at, last}
	defer func() {
		if x := recover(); x != nil {
			n, o, to, e = 0, api.Object{}, 0, api.Errno(x.(stop))
		}
	}()
	n = r.whole()
	must(n >= 1 && n <= 4096, api.ErrFrame)
	must(r.whole() == 0, api.ErrFrame)
	r.word("obj")
	v, to, e := parse.Value([]byte(s), r.at, last)
	must(e == api.OK, e)
	r.at = to
	t := r.token()
	must(t.Kind == lex.Word, api.ErrFrame)
	switch t.S {
	case "endobj":
		o = plain(v)
	case "stream":
		o = r.stream(v)
	default:
		panic(stop(api.ErrFrame))
	}
	return n, o, r.at, api.OK
}

// token goes over the next one.
func (r *reading) token() lex.Token {
	t, e := lex.Next([]byte(r.s), r.at, r.last)
	must(e == api.OK, e)
	must(t.Kind != lex.End, api.ErrCut)
	r.at = t.To
	return t
}

func (r *reading) whole() int {
	t := r.token()
	must(t.V.Kind == api.Int, api.ErrForm)
	return t.V.N
}

func (r *reading) word(s string) {
	t := r.token()
	must(t.Kind == lex.Word && t.S == s, api.ErrForm)
}

// stream goes over what stands behind the word stream.
func (r *reading) stream(v api.Value) api.Object {
	must(v.Kind == api.Dict, api.ErrFrame)
	of := map[string]api.Value{}
	o := stream("")
	for i := 0; i < len(v.L); i += 2 {
		of[v.L[i].S] = v.L[i+1]
		if s := v.L[i].S; s != "Length" && s != "Filter" {
			o.V.L = append(o.V.L, v.L[i:i+2]...)
		}
	}
	_, parms := of["DecodeParms"]
	filter, packed := of["Filter"]
	f, _ := show.Value(filter)
	n := of["Length"]
	must(n.Kind == api.Int && n.N >= 0 && n.N <= 1<<24, api.ErrFrame)
	must(!parms && (!packed || f == "/FlateDecode" || f == "[/FlateDecode]"), api.ErrFrame)
	o.Data = r.data(n.N)
	r.word("endstream")
	r.word("endobj")
	if packed {
		b, _, e := zlib.Unpack([]byte(o.Data), 1<<24)
		must(e == api.OK, api.ErrFrame)
		o.Data = string(b)
	}
	return o
}

// data goes over the line's end, and so many bytes.
func (r *reading) data(n int) string {
	short := map[bool]api.Errno{true: api.ErrCut, false: api.ErrMore}[r.last]
	s := r.s[r.at:]
	must(s != "" && s != "\r", short)
	if s[0] == '\r' {
		s = s[1:]
	}
	must(s[0] == '\n', api.ErrFrame)
	must(len(s) > n, short)
	r.at = len(r.s) - len(s) + 1 + n
	return s[1 : n+1]
}

// printed are an object's bytes, not packed, by the chapter's words.
func printed(n int, o api.Object) string {
	if !o.Stream {
		return fmt.Sprintf("%d 0 obj\n%s\nendobj\n", n, form(o.V))
	}
	pairs := [][]api.Value{{name("Length"), whole(len(o.Data))}}
	pairs = slices.AppendSeq(pairs, slices.Chunk(o.V.L, 2))
	slices.SortFunc(pairs, func(a, b []api.Value) int { return strings.Compare(a[0].S, b[0].S) })
	v := dict(slices.Concat(pairs...)...)
	return fmt.Sprintf("%d 0 obj\n%s\nstream\n%s\nendstream\nendobj\n", n, form(v), o.Data)
}

// form is the form of a value that may be.
func form(v api.Value) string {
	s, e := show.Value(v)
	if e != api.OK {
		panic(e)
	}
	return s
}

// few ends a test that has told enough: where one answer is wrong, thousands may be.
func few(t *testing.T) {
	t.Helper()
	if t.Failed() {
		t.FailNow()
	}
}

// brief is the beginning of an object as Go writes it.
func brief(o api.Object) string { return fmt.Sprintf("%.200q", fmt.Sprint(o)) }

// alike is Same by the chapter's words.
func alike(a, b api.Object) bool {
	return value.Same(a.V, b.V) && a.Stream == b.Stream && a.Data == b.Data
}

// reads asks for Parse's answer.
func reads(t *testing.T, s string, at int, last bool, n int, o api.Object, to int, e api.Errno) {
	t.Helper()
	m, p, end, f := frame.Parse([]byte(s), at, last)
	if m != n || !alike(p, o) || end != to || f != e {
		t.Errorf("Parse(%.300q, %d, %v): %d, %s, %d, %v, want %d, %s, %d, %v", s, at, last, m, brief(p), end, f, n, brief(o), to, e)
	}
	few(t)
}

// refuses asks for an error of Parse, and that all else is zero.
func refuses(t *testing.T, s string, at int, last bool, e api.Errno) {
	t.Helper()
	reads(t, s, at, last, 0, api.Object{}, 0, e)
}

// agrees asks that Parse answers what the chapter's words say, whether b's end is the file's or not, and tells which error that is where it is.
func agrees(t *testing.T, s string, at int) api.Errno {
	t.Helper()
	n, o, to, e := plainly(s, at, false)
	reads(t, s, at, false, n, o, to, e)
	n, o, to, e = plainly(s, at, true)
	reads(t, s, at, true, n, o, to, e)
	return e
}

// ahead are what may stand ahead of an object, no word of which it is; behind, what may behind it.
func ahead() []string {
	return []string{"", " ", "\x00\t\n\f\r ", "%1 0 obj\n", "]", "5 0 obj\n7\nendobj\n", "(1 0 obj", "\xff\r\n", "stream\n"}
}

func behind() []string {
	return []string{" ", "\n", "\r\n5 0 obj\n7\nendobj\n", "%c", "[", "(", "<", ")", "/", "\x00endobj", "\nstream\n", "\tendstream\nendobj\n"}
}

// stands asks that a text is an object, alone, behind others, and ahead of others.
func stands(t *testing.T, s string, n int, o api.Object) {
	t.Helper()
	for _, a := range ahead() {
		to := len(a + s)
		for _, b := range behind() {
			reads(t, a+s+b, len(a), true, n, o, to, api.OK)
			reads(t, a+s+b, len(a), false, n, o, to, api.OK)
		}
		reads(t, a+s, len(a), true, n, o, to, api.OK)
		refuses(t, a+s, len(a), false, api.ErrMore) // its last word may go on
	}
}

// fails asks that a text is an error, alone, behind others, and ahead of others.
func fails(t *testing.T, s string, e api.Errno) {
	t.Helper()
	for _, a := range ahead() {
		for _, b := range behind() {
			refuses(t, a+s+b, len(a), true, e)
			refuses(t, a+s+b, len(a), false, e)
		}
		refuses(t, a+s, len(a), true, e)
	}
}

// cut asks that a text ends too early: more bytes are wanted, if there may be any.
func cut(t *testing.T, s string) {
	t.Helper()
	for _, a := range ahead() {
		refuses(t, a+s, len(a), true, api.ErrCut)
		refuses(t, a+s, len(a), false, api.ErrMore)
	}
}

// chance makes objects by chance.
type chance struct{ *rand.Rand }

// pick is one of some texts.
func (c chance) pick(of ...string) string { return of[c.IntN(len(of))] }

// value is one that may be.
func (c chance) value(deep int) api.Value {
	good := goodValues()
	if deep == 0 || c.IntN(3) > 0 {
		v := good[c.IntN(len(good))]
		if value.Depth(v) < 3 {
			return v
		}
		return null()
	}
	var l []api.Value
	for range c.IntN(5) {
		l = append(l, c.value(deep-1))
	}
	if c.IntN(2) == 0 {
		return array(l...)
	}
	return c.dict(deep - 1)
}

// dict is a Dict that may be a stream's.
func (c chance) dict(deep int) api.Value {
	d := dict()
	for range c.IntN(4) {
		d = value.Put(d, c.pick("A", "Type", "DL", "Kids", "Z", "", "Filters", "\xff", "endobj"), c.value(deep))
	}
	return d
}

// data are bytes that may look like what stands around them, or go on for long.
func (c chance) data() string {
	s := ""
	for range c.IntN(6) {
		s += c.pick("endstream", "endobj", "\nendstream\nendobj\n", "stream\n", "\r", "\n", "\x00", "a", "1 0 obj\n", ">>", "(", "%", strings.Repeat("catchword ", c.IntN(30)), string([]byte{byte(c.Uint32()), byte(c.Uint32())}))
	}
	return s
}

// object is one that may be.
func (c chance) object() api.Object {
	if c.IntN(2) == 0 {
		return plain(c.value(3))
	}
	return api.Object{V: c.dict(2), Stream: true, Data: c.data()}
}

package parse_test

import (
	"cmp"
	"fmt"
	"slices"
	"strings"
	"testing"

	"catchword/api"
	"catchword/lex"
	"catchword/parse"
	"catchword/value"
)

// reading has the tokens that stand from a place on, and what stands behind the last: an error, or the end. Its calls are in one another, as values are.
type reading struct {
	l  []lex.Token
	to int
	e  api.Errno
}

// stop ends a reading.
type stop api.Errno

func halt(e api.Errno) { panic(stop(e)) }

// plainly is Value by the chapter's words.
func plainly(b []byte, at int, last bool) (v api.Value, to int, e api.Errno) {
	var r reading
	for from := at; ; {
		t, f := lex.Next(b, from, last)
		if f != api.OK || t.Kind == lex.End {
			r.e = cmp.Or(f, api.ErrCut)
			break
		}
		r.l, from = append(r.l, t), t.To
	}
	defer func() {
		if x := recover(); x != nil {
			v, to, e = api.Value{}, 0, api.Errno(x.(stop))
		}
	}()
	return r.value(0, false), r.to, api.OK
}

// take is the next token.
func (r *reading) take() lex.Token {
	if len(r.l) == 0 {
		halt(r.e)
	}
	t := r.l[0]
	r.l, r.to = r.l[1:], t.To
	return t
}

// ended goes over the next token, if it is of that kind.
func (r *reading) ended(kind int) bool {
	if len(r.l) == 0 || r.l[0].Kind != kind {
		return false
	}
	r.take()
	return true
}

// value is the next value, within so many others, in a name's place or not.
func (r *reading) value(within int, named bool) api.Value {
	t := r.take()
	bracket := t.Kind == lex.Open || t.Kind == lex.OpenDict
	v := t.V
	switch {
	case t.Kind == lex.Close || t.Kind == lex.CloseDict:
		halt(api.ErrForm)
	case t.Kind == lex.Word:
		words := map[string]api.Value{"null": null(), "true": truth(1), "false": truth(0)}
		w, ok := words[t.S]
		if !ok {
			halt(api.ErrForm)
		}
		v = w
	case v.Kind == api.Int:
		v = r.reference(v)
	}
	if named && (bracket || v.Kind != api.Name) {
		halt(api.ErrForm)
	}
	if within >= 64 {
		halt(api.ErrDeep)
	}
	switch t.Kind {
	case lex.Open:
		return r.array(within + 1)
	case lex.OpenDict:
		return r.dict(within + 1)
	}
	return v
}

// reference is what an Int is by the two tokens behind it.
func (r *reading) reference(v api.Value) api.Value {
	kinds := ""
	for _, t := range r.l[:min(len(r.l), 2)] {
		switch {
		case t.V.Kind == api.Int:
			kinds += "i"
		case t.Kind == lex.Word && t.S == "R":
			kinds += "R"
		default:
			kinds += "-"
		}
	}
	switch {
	case kinds == "iR" && v.N >= 1 && v.N <= 4096 && r.l[0].V.N == 0:
		r.take()
		r.take()
		return ref(v.N)
	case kinds == "iR":
		halt(api.ErrRef)
	case (kinds == "" || kinds == "i") && r.e == api.ErrMore:
		halt(api.ErrMore)
	}
	return v
}

func (r *reading) array(within int) api.Value {
	v := array()
	for !r.ended(lex.Close) {
		v.L = append(v.L, r.value(within, false))
	}
	return v
}

func (r *reading) dict(within int) api.Value {
	values := map[string]api.Value{}
	var keys []string
	for !r.ended(lex.CloseDict) {
		key := r.value(within, true).S
		keys = append(keys, key)
		values[key] = r.value(within, false)
	}
	slices.Sort(keys)
	if len(values) < len(keys) {
		halt(api.ErrKey)
	}
	v := dict()
	for _, s := range keys {
		v.L = append(v.L, name(s), values[s])
	}
	return v
}

// Values by their Kinds, as tests write them.
func null() api.Value                { return api.Value{} }
func truth(n int) api.Value          { return api.Value{Kind: api.Bool, N: n} }
func whole(n int) api.Value          { return api.Value{Kind: api.Int, N: n} }
func millionths(n int) api.Value     { return api.Value{Kind: api.Real, N: n} }
func text(s string) api.Value        { return api.Value{Kind: api.String, S: s} }
func name(s string) api.Value        { return api.Value{Kind: api.Name, S: s} }
func array(l ...api.Value) api.Value { return api.Value{Kind: api.Array, L: l} }
func dict(l ...api.Value) api.Value  { return api.Value{Kind: api.Dict, L: l} }
func ref(n int) api.Value            { return api.Value{Kind: api.Ref, N: n} }

// brief is a value as a test tells it.
func brief(v api.Value) string { return fmt.Sprintf("%.300s", fmt.Sprint(v)) }

// few ends a test that has told enough: where one answer is wrong, thousands may be.
func few(t *testing.T) {
	t.Helper()
	if t.Failed() {
		t.FailNow()
	}
}

// reads asks for Value's answer, and that what is read may be.
func reads(t *testing.T, s string, at int, last bool, want api.Value, to int, e api.Errno) {
	t.Helper()
	v, got, f := parse.Value([]byte(s), at, last)
	if !value.Same(v, want) || got != to || f != e {
		t.Errorf("Value(%.300q, %d, %v): %s, %d, %v, want %s, %d, %v", s, at, last, brief(v), got, f, brief(want), to, e)
	}
	if f := value.Check(v); f != api.OK {
		t.Errorf("Value(%.300q, %d, %v): %s may not be: %v", s, at, last, brief(v), f)
	}
}

// agrees asks that Value answers what the chapter's words say, whether b's end is the file's or not, and tells which error that is where it is.
func agrees(t *testing.T, s string, at int) api.Errno {
	t.Helper()
	want, to, e := plainly([]byte(s), at, false)
	reads(t, s, at, false, want, to, e)
	want, to, e = plainly([]byte(s), at, true)
	reads(t, s, at, true, want, to, e)
	few(t)
	return e
}

// ahead and behind are what may stand on either side of a value; a value is not a word of them.
func ahead() []string {
	return []string{"", " ", "\x00\t\n\f\r ", "%\n", "% (a\n %<b\r\n", "]", "[", "<<", ">>", "(x)", ")", "}", "7 ", "1 0 ", "/N ", "/#0 ", "obj\n", "(\n"}
}

func behind() []string {
	return []string{" ]", "]", ">>", "\n[", "<<", "(x)", "/N ", "%c\n]", " obj ", " R ", " 0R ", " R\n1 0 R ", "\x001 obj ", " 7 0 obj\n", " 5 5 R5 ", ")", "}", "{ ", "> ", "<g", " .5 ", " 1.2.3 ", " 4000000000 ", " /#0 ", " 0 > ", " 0 0.0 ", " 0)", " 0[R]", " 0/R "}
}

// stands asks that a text is a value, alone, behind others, and ahead of others. What Ints and words behind an Int are is another test's.
func stands(t *testing.T, s string, want api.Value) {
	t.Helper()
	n := len(s)
	reads(t, s, 0, true, want, n, api.OK)
	for _, a := range ahead() {
		for _, b := range behind() {
			for _, last := range []bool{true, false} {
				reads(t, a+s+b, len(a), last, want, len(a)+n, api.OK)
			}
		}
		reads(t, a+s, len(a), true, want, len(a)+n, api.OK)
		if lex.Skip([]byte(a), 0) == len(a) {
			reads(t, a+s+"]", 0, false, want, len(a)+n, api.OK)
			reads(t, a+s, 0, true, want, len(a)+n, api.OK)
		}
	}
	few(t)
}

// fails asks that a text is an error, alone, behind others, and ahead of others.
func fails(t *testing.T, s string, e api.Errno) {
	t.Helper()
	for _, a := range ahead() {
		for _, b := range behind() {
			for _, last := range []bool{true, false} {
				reads(t, a+s+b, len(a), last, null(), 0, e)
			}
		}
		reads(t, a+s, len(a), true, null(), 0, e)
	}
	few(t)
}

// cut asks that a text ends too early: more bytes are wanted, if there may be any.
func cut(t *testing.T, s string) {
	t.Helper()
	for _, a := range ahead() {
		reads(t, a+s, len(a), true, null(), 0, api.ErrCut)
		reads(t, a+s, len(a), false, null(), 0, api.ErrMore)
	}
	few(t)
}

// texts hands all texts of at most n of those pieces to a function.
func texts(of []string, n int, each func(string)) {
	var put func(s string, n int)
	put = func(s string, n int) {
		each(s)
		for _, p := range of {
			if n > 0 {
				put(s+p, n-1)
			}
		}
	}
	put("", n)
}

// pieces are what values are made of, wrongPieces what they should not be made of.
func pieces() []string {
	return strings.Split("1 |0 |2 |4096 |-1 |R |1 0 R |7 0 R |[|]|[|]|<<|>>|<<|>>|/A |/B |/C |/#41 |/|(x)|<41>|.5 |-7.25 |true |false |null |%c\n| |\n|/A 1|/B[|/C<<", "|")
}

func wrongPieces() []string {
	return strings.Split("4097 |0 0 R |1 1 R |5000 0 R |obj |TRUE |R|)|}|> |>|<|(|<4 g|/#0 |/A#00 |1.2.3 |-|4000000000 |/A 1/A 2", "|")
}

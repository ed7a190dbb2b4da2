package show_test

import (
	"bytes"
	"fmt"
	"math/rand/v2"
	"strings"
	"testing"

	"catchword/api"
	"catchword/parse"
	"catchword/show"
	"catchword/value"
)

// most is the greatest whole number, mostReal the greatest number of millionths.
const (
	most     = 1<<31 - 1
	mostReal = most * 1000000
)

// Values by their Kinds, as tests write them.
func null() api.Value                { return api.Value{} }
func truth(n int) api.Value          { return api.Value{Kind: api.Bool, N: n} }
func whole(n int) api.Value          { return api.Value{Kind: api.Int, N: n} }
func millionths(n int) api.Value     { return api.Value{Kind: api.Real, N: n} }
func text(s string) api.Value        { return api.Value{Kind: api.String, S: s} }
func name(s string) api.Value        { return api.Value{Kind: api.Name, S: s} }
func array(l ...api.Value) api.Value { return api.Value{Kind: api.Array, L: l} }
func dict(l ...api.Value) api.Value  { return api.Value{Kind: api.Dict, L: l} }
func ref(n int) api.Value            { return api.Value{Kind: api.Ref, N: n} }

// nested puts a value into so many others, of the Kinds in turn: Dicts have it behind a name.
func nested(v api.Value, n int, kinds ...int) api.Value {
	for i := range n {
		if kinds[i%len(kinds)] == api.Dict {
			v = dict(name("K"), v)
		} else {
			v = array(v)
		}
	}
	return v
}

// plainly is the form of a value that may be, by the chapter's words.
func plainly(v api.Value) string {
	var l []string
	for _, x := range v.L {
		l = append(l, plainly(x))
	}
	switch v.Kind {
	case api.Bool:
		return map[int]string{0: "false", 1: "true"}[v.N]
	case api.Int:
		return fmt.Sprint(v.N)
	case api.Real:
		s := strings.TrimRight(fmt.Sprintf("%d.%06d", max(v.N, -v.N)/1000000, max(v.N, -v.N)%1000000), "0")
		if strings.HasSuffix(s, ".") {
			s += "0"
		}
		if v.N < 0 {
			s = "-" + s
		}
		return s
	case api.String:
		return textPlainly(v.S)
	case api.Name:
		return namePlainly(v.S)
	case api.Array:
		return "[" + strings.Join(l, " ") + "]"
	case api.Dict:
		var pairs []string
		for i := 0; i < len(l); i += 2 {
			pairs = append(pairs, l[i]+" "+l[i+1])
		}
		return "<<" + strings.Join(pairs, " ") + ">>"
	case api.Ref:
		return fmt.Sprintf("%d 0 R", v.N)
	}
	return "null"
}

func textPlainly(s string) string {
	for c := range 256 {
		if (c < 32 || c > 126) && bytes.IndexByte([]byte(s), byte(c)) >= 0 {
			return fmt.Sprintf("<%x>", s)
		}
	}
	return "(" + strings.NewReplacer("(", "\\(", ")", "\\)", "\\", "\\\\").Replace(s) + ")"
}

func namePlainly(s string) string {
	out := "/"
	for i := range len(s) {
		if c := s[i : i+1]; c < "\x21" || c > "\x7e" || strings.Contains("#()<>[]{}/%", c) {
			out += fmt.Sprintf("#%02x", c)
		} else {
			out += c
		}
	}
	return out
}

// few ends a test that has told enough: where one answer is wrong, thousands may be.
func few(t *testing.T) {
	t.Helper()
	if t.Failed() {
		t.FailNow()
	}
}

// brief is the beginning of a value as Go writes it.
func brief(v api.Value) string { return fmt.Sprintf("%.300q", fmt.Sprint(v)) }

// shows asks for Value's and Length's answers, of a value that may be, and that it comes back from its form.
func shows(t *testing.T, v api.Value, want string) {
	t.Helper()
	s, e := show.Value(v)
	if s != want || e != api.OK {
		t.Errorf("Value(%s): %.300q, %v, want %.300q", brief(v), s, e, want)
	}
	if n := show.Length(v); n != len(want) {
		t.Errorf("Length(%s): %d, want %d", brief(v), n, len(want))
	}
	if x, e := parse.Whole([]byte(s)); !value.Same(x, v) || e != api.OK {
		t.Errorf("%.300q is %s, %v, want %s", s, brief(x), e, brief(v))
	}
	few(t)
}

// agrees asks that a value that may be is shown as the chapter's words say.
func agrees(t *testing.T, v api.Value) {
	t.Helper()
	shows(t, v, plainly(v))
}

// refuses asks that a value has no form, and for the error.
func refuses(t *testing.T, v api.Value, want api.Errno) {
	t.Helper()
	if s, e := show.Value(v); s != "" || e != want {
		t.Errorf("Value(%s): %.300q, %v, want %v", brief(v), s, e, want)
	}
	if n := show.Length(v); n != 0 {
		t.Errorf("Length(%s): %d", brief(v), n)
	}
	few(t)
}

// names asks for Name's answer, which is that of the name as a value, too.
func names(t *testing.T, s, want string) {
	t.Helper()
	if f, e := show.Name(s); f != want || e != api.OK {
		t.Errorf("Name(%q): %q, %v, want %q", s, f, e, want)
	}
	shows(t, name(s), want)
	shows(t, array(name(s), name(s)), "["+want+" "+want+"]")
	shows(t, dict(name(s), name(s)), "<<"+want+" "+want+">>")
}

// tells asks for Text's answer, which is that of the text as a value, too.
func tells(t *testing.T, s, want string) {
	t.Helper()
	if f := show.Text(s); f != want {
		t.Errorf("Text(%.300q): %.300q, want %.300q", s, f, want)
	}
	shows(t, text(s), want)
	shows(t, array(text(s), text(s)), "["+want+" "+want+"]")
	shows(t, dict(name("A"), text(s)), "<</A "+want+">>")
}

// chance makes values by chance: of few texts and numbers, so that many are alike.
type chance struct{ *rand.Rand }

// text is of pieces, or of any bytes.
func (c chance) text() string {
	if c.IntN(4) == 0 {
		b := make([]byte, c.IntN(6))
		for i := range b {
			b[i] = byte(c.Uint32())
		}
		return string(b)
	}
	pieces := []string{"(", ")", "\\", "<", ">", "[", "]", "{", "}", "/", "%", "#", "#41", " ", "1", "0", "R", "A", "null", "0a", "~", "\x7f", "\x1f", "\r", "\n", "\r\n", "\x00", "\\n", "\\101", "\xff", "\xc3\xa9"}
	s := ""
	for range c.IntN(5) {
		s += pieces[c.IntN(len(pieces))]
	}
	return s
}

// number is one from -most to most, small ones more often.
func (c chance) number(most int) int { return (c.IntN(2*most+1) - most) >> c.IntN(60) }

// right is a value that may be.
func (c chance) right(deep int) api.Value {
	n := c.IntN(9)
	if deep == 0 && (n == api.Array || n == api.Dict) {
		n = api.Ref
	}
	var l []api.Value
	switch n {
	case api.Bool:
		return truth(c.IntN(2))
	case api.Int:
		return whole(c.number(most))
	case api.Real:
		return millionths(c.number(mostReal))
	case api.String:
		return text(c.text())
	case api.Name:
		return name(strings.ReplaceAll(c.text(), "\x00", "R"))
	case api.Array:
		for range c.IntN(6) {
			l = append(l, c.right(deep-1))
		}
		return array(l...)
	case api.Dict:
		for range c.IntN(6) {
			l = append(l, name(strings.ReplaceAll(c.text(), "\x00", "R")), c.right(deep-1))
		}
		return value.DictOf(l...)
	case api.Ref:
		return ref(1 + c.IntN(api.MaxObjects)>>c.IntN(12))
	}
	return null()
}

// any is a value of any fields, of which some may be.
func (c chance) any(deep int) api.Value {
	switch c.IntN(6) {
	case 0:
		if deep > 0 {
			return c.dict(deep)
		}
	case 1, 2, 3:
		return c.right(deep)
	}
	numbers := []int{0, 0, 0, 1, 1, 2, -1, 4096, 4097, most, most + 1, -most - 1, mostReal + 1, 1 << 62, -1 << 63}
	v := api.Value{Kind: c.IntN(11) - 1, N: numbers[c.IntN(len(numbers))]}
	if c.IntN(3) == 0 {
		v.S = []string{"A", "\x00", strings.Repeat("n", 127), strings.Repeat("n", 128), " "}[c.IntN(5)]
	}
	if deep > 0 && c.IntN(3) > 0 {
		for range c.IntN(5) {
			v.L = append(v.L, c.any(deep-1))
		}
	}
	return v
}

// dict is a Dict whose names are in any order.
func (c chance) dict(deep int) api.Value {
	var l []api.Value
	for range c.IntN(4) {
		l = append(l, name(string("ABC"[c.IntN(3)])), c.any(deep-1))
	}
	return dict(l...)
}

package xref_test

import (
	"fmt"
	"math/rand/v2"
	"regexp"
	"strconv"
	"strings"
	"testing"

	"catchword/api"
	"catchword/lex"
	"catchword/parse"
	"catchword/show"
	"catchword/value"
	"catchword/xref"
)

// most is the greatest place.
const most = 1<<31 - 1

// Values by their Kinds, entries, groups and sections, as tests write them.
func null() api.Value                { return api.Value{} }
func truth(n int) api.Value          { return api.Value{Kind: api.Bool, N: n} }
func whole(n int) api.Value          { return api.Value{Kind: api.Int, N: n} }
func millionths(n int) api.Value     { return api.Value{Kind: api.Real, N: n} }
func text(s string) api.Value        { return api.Value{Kind: api.String, S: s} }
func name(s string) api.Value        { return api.Value{Kind: api.Name, S: s} }
func array(l ...api.Value) api.Value { return api.Value{Kind: api.Array, L: l} }
func dict(l ...api.Value) api.Value  { return api.Value{Kind: api.Dict, L: l} }
func ref(n int) api.Value            { return api.Value{Kind: api.Ref, N: n} }
func used(at, gen int) api.Entry     { return api.Entry{At: at, Gen: gen, Used: true} }
func free(at, gen int) api.Entry     { return api.Entry{At: at, Gen: gen} }
func group(first int, l ...api.Entry) api.Group {
	return api.Group{First: first, Entries: l}
}
func section(trailer api.Value, l ...api.Group) xref.Section {
	return xref.Section{Groups: l, Trailer: trailer}
}

// nested puts a value into so many Arrays.
func nested(v api.Value, n int) api.Value {
	for range n {
		v = array(v)
	}
	return v
}

// many are so many entries, each another one.
func many(n int) []api.Entry {
	var l []api.Entry
	for i := range n {
		l = append(l, api.Entry{At: i * 524001 % most, Gen: i * 16 % 65536, Used: i%3 > 0})
	}
	return l
}

// groups are so many groups, each another one.
func groups(n int) []api.Group {
	var l []api.Group
	for i := range n {
		l = append(l, group(i*64, many(i%4)...))
	}
	return l
}

// goodTrailers are dictionaries that may be.
func goodTrailers() []api.Value {
	return []api.Value{dict(), dict(name("Size"), whole(8)), dict(name("Prev"), whole(17), name("Root"), ref(1), name("Size"), whole(4097)), dict(name("A"), nested(null(), 62)), dict(name("A"), array(ref(3), null(), text("a(b)")), name("B"), dict(name("trailer"), name("xref"))), dict(name("A b"), text("\x00\n")), dict(name(""), millionths(-500000), name("Z"), truth(1))}
}

// reading has a file's bytes, and where it is in them. Its calls end it by a panic.
type reading struct {
	s    string
	at   int
	last bool
}

// stop ends a reading.
type stop api.Errno

// must ends a reading where something does not hold.
func must(holds bool, e api.Errno) {
	if !holds {
		panic(stop(e))
	}
}

// plainly is Parse by the chapter's words.
func plainly(s string, at int, last bool) (x xref.Section, to int, e api.Errno) {
	r := &reading{s, at, last}
	defer func() {
		if p := recover(); p != nil {
			x, to, e = xref.Section{}, 0, api.Errno(p.(stop))
		}
	}()
	must(r.token().is("xref"), api.ErrForm)
	for t := r.token(); !t.is("trailer"); t = r.token() {
		must(t.V.Kind == api.Int, api.ErrXref)
		second := r.token()
		must(second.V.Kind == api.Int, api.ErrXref)
		first, count := t.V.N, second.V.N
		must(len(x.Groups) < 64 && first >= 0 && count >= 0 && first+count <= 4097, api.ErrXref)
		x.Groups = append(x.Groups, group(first))
		for range count {
			g := &x.Groups[len(x.Groups)-1]
			g.Entries = append(g.Entries, r.entry())
		}
	}
	v, to, e := parse.Value([]byte(s), r.at, last)
	must(e == api.OK, e)
	must(v.Kind == api.Dict, api.ErrXref)
	x.Trailer = v
	return x, to, api.OK
}

// token is one of lex's.
type token lex.Token

func (t token) is(word string) bool { return t.Kind == lex.Word && t.S == word }

// token goes over the next one.
func (r *reading) token() token {
	t, e := lex.Next([]byte(r.s), r.at, r.last)
	must(e == api.OK, e)
	must(t.Kind != lex.End, api.ErrCut)
	r.at = t.To
	return token(t)
}

// lineForm is how an entry's line begins.
var lineForm = regexp.MustCompile(`^([0-9]{10}) ([0-9]{5}) ([nf])[ \n\r]`)

func (r *reading) entry() api.Entry {
	short := map[bool]api.Errno{true: api.ErrCut, false: api.ErrMore}[r.last]
	rest := strings.TrimLeft(r.s[r.at:], "\x00\t\n\f\r ")
	must(len(rest) >= 19, short)
	m := lineForm.FindStringSubmatch(rest)
	must(m != nil, api.ErrXref)
	at, _ := strconv.ParseInt(m[1], 10, 64)
	gen, _ := strconv.ParseInt(m[2], 10, 64)
	must(at <= most && gen <= 65535, api.ErrXref)
	r.at = len(r.s) - len(rest) + 19
	return api.Entry{At: int(at), Gen: int(gen), Used: m[3] == "n"}
}

// line is an entry's, by the chapter's words.
func line(e api.Entry) string {
	return fmt.Sprintf("%010d %05d %c \n", e.At, e.Gen, map[bool]rune{true: 'n', false: 'f'}[e.Used])
}

// printed are a section's bytes, by the chapter's words.
func printed(x xref.Section) string {
	var s strings.Builder
	s.WriteString("xref\n")
	for _, g := range x.Groups {
		fmt.Fprintf(&s, "%d %d\n", g.First, len(g.Entries))
		for _, e := range g.Entries {
			s.WriteString(line(e))
		}
	}
	v, e := show.Value(x.Trailer)
	if e != api.OK {
		panic(e)
	}
	return s.String() + "trailer\n" + v + "\n"
}

// checked is Check by the chapter's words.
func checked(x xref.Section) api.Errno {
	if len(x.Groups) > 64 || x.Trailer.Kind != api.Dict {
		return api.ErrArg
	}
	for _, g := range x.Groups {
		if g.First < 0 || g.First > 4097 || g.First+len(g.Entries) > 4097 {
			return api.ErrArg
		}
		for _, e := range g.Entries {
			if e.At < 0 || e.At > most || e.Gen < 0 || e.Gen > 65535 {
				return api.ErrArg
			}
		}
	}
	return value.Check(x.Trailer)
}

// alike is Same by the chapter's words.
func alike(a, b xref.Section) bool {
	if len(a.Groups) != len(b.Groups) || !value.Same(a.Trailer, b.Trailer) {
		return false
	}
	for i, g := range a.Groups {
		h := b.Groups[i]
		if g.First != h.First || len(g.Entries) != len(h.Entries) {
			return false
		}
		for k := range g.Entries {
			if g.Entries[k] != h.Entries[k] {
				return false
			}
		}
	}
	return true
}

// few ends a test that has told enough: where one answer is wrong, thousands may be.
func few(t *testing.T) {
	t.Helper()
	if t.Failed() {
		t.FailNow()
	}
}

// brief is the beginning of a section as Go writes it.
func brief(x xref.Section) string { return fmt.Sprintf("%.300q", fmt.Sprint(x)) }

// reads asks for Parse's answer.
func reads(t *testing.T, s string, at int, last bool, x xref.Section, to int, e api.Errno) {
	t.Helper()
	y, end, f := xref.Parse([]byte(s), at, last)
	if !alike(y, x) || end != to || f != e {
		t.Errorf("Parse(%.300q, %d, %v): %s, %d, %v, want %s, %d, %v", s, at, last, brief(y), end, f, brief(x), to, e)
	}
	few(t)
}

// refuses asks for an error of Parse, and that all else is zero.
func refuses(t *testing.T, s string, at int, last bool, e api.Errno) {
	t.Helper()
	reads(t, s, at, last, xref.Section{}, 0, e)
}

// agrees asks that Parse answers what the chapter's words say, whether b's end is the file's or not, and tells which error that is where it is.
func agrees(t *testing.T, s string, at int) api.Errno {
	t.Helper()
	x, to, e := plainly(s, at, false)
	reads(t, s, at, false, x, to, e)
	x, to, e = plainly(s, at, true)
	reads(t, s, at, true, x, to, e)
	return e
}

// ahead are what may stand ahead of a section, no word of which it is; behind, what may behind it.
func ahead() []string {
	return []string{"", " ", "\x00\t\n\f\r ", "%xref\n", "]", "5 0 obj\n7\nendobj\n", "(xref", "\xff\r\n", "xref\n"}
}

func behind() []string {
	return []string{"", " ", "\n", "\r\nstartxref\n0\n", "x", "7", "0 R", ">>", "%c", "[", "(", "<", ")", "/", "\x00xref", "\n0000000017 00000 n \n", "trailer<<>>"}
}

// stands asks that a text is a section, alone, behind others, and ahead of others.
func stands(t *testing.T, s string, x xref.Section) {
	t.Helper()
	for _, a := range ahead() {
		for _, b := range behind() {
			reads(t, a+s+b, len(a), true, x, len(a+s), api.OK)
			reads(t, a+s+b, len(a), false, x, len(a+s), api.OK)
		}
	}
}

// fails asks that a text is an error, behind others, and ahead of others.
func fails(t *testing.T, s string, e api.Errno) {
	t.Helper()
	for _, a := range ahead() {
		for _, b := range []string{" ", "\n", "\n0000000017 00000 n \ntrailer<<>>", "[", "(", "/", "%", "<"} {
			refuses(t, a+s+b, len(a), true, e)
			refuses(t, a+s+b, len(a), false, e)
		}
		refuses(t, a+s, len(a), true, e)
	}
}

// cut asks that a text ends too early: more bytes are wanted, if there may be any.
func cut(t *testing.T, s string) {
	t.Helper()
	for _, a := range ahead() {
		refuses(t, a+s, len(a), true, api.ErrCut)
		refuses(t, a+s, len(a), false, api.ErrMore)
	}
}

// chance makes sections by chance.
type chance struct{ *rand.Rand }

// pick is one of some texts.
func (c chance) pick(of ...string) string { return of[c.IntN(len(of))] }

// number is one from 0 to most, the edges often.
func (c chance) number(most int) int {
	switch c.IntN(5) {
	case 0:
		return 0
	case 1:
		return most
	}
	return c.IntN(most + 1)
}

// group is one that may be.
func (c chance) group() api.Group {
	g := group(c.number(4090))
	for range c.IntN(7) {
		g.Entries = append(g.Entries, api.Entry{At: c.number(most), Gen: c.number(65535), Used: c.IntN(2) == 0})
	}
	return g
}

// section is one that may be.
func (c chance) section() xref.Section {
	l := goodTrailers()
	x := section(l[c.IntN(len(l))])
	for range c.IntN(4) {
		x.Groups = append(x.Groups, c.group())
	}
	return x
}

// wrongSection is one that may not be, if it is not by chance one that may.
func (c chance) wrongSection() xref.Section {
	x := c.section()
	x.Groups = append(x.Groups, c.group())
	g := &x.Groups[c.IntN(len(x.Groups))]
	g.Entries = append(g.Entries, used(17, 0))
	e := &g.Entries[c.IntN(len(g.Entries))]
	switch c.IntN(8) {
	case 0:
		g.First = -1 - c.number(9000)
	case 1:
		g.First = 4090 + c.IntN(20)
	case 2:
		e.At = -1 - c.number(most)
	case 3:
		e.At = most + c.IntN(3)
	case 4:
		e.Gen = -1 - c.number(70000)
	case 5:
		e.Gen = 65535 + c.IntN(3)
	case 6:
		x.Trailer = []api.Value{null(), array(), name("Size"), ref(1), whole(5), dict(name("A")), dict(name("A"), ref(0))}[c.IntN(7)]
	case 7:
		x.Groups = append(x.Groups, groups(60+c.IntN(5))...)
	}
	return x
}

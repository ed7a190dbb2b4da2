package chain_test

import (
	"fmt"
	"math"
	"math/rand/v2"
	"slices"
	"strconv"
	"strings"
	"testing"

	"catchword/api"
	"catchword/chain"
	"catchword/parse"
	"catchword/source"
	"catchword/value"
	"catchword/xref"
)

// most is the greatest length of a file, and the greatest whole number in one.
const most = 1<<31 - 1

// farOff are numbers below 0, and past all ends.
var farOff = []int{math.MinInt, math.MinInt + 1, -most - 2, -most, -2, -1, most + 1, 1 << 32, 1 << 40, math.MaxInt - 1, math.MaxInt}

// Values by their Kinds, entries, groups and sections, as tests write them.
func null() api.Value                { return api.Value{} }
func whole(n int) api.Value          { return api.Value{Kind: api.Int, N: n} }
func millionths(n int) api.Value     { return api.Value{Kind: api.Real, N: n} }
func name(s string) api.Value        { return api.Value{Kind: api.Name, S: s} }
func text(s string) api.Value        { return api.Value{Kind: api.String, S: s} }
func array(l ...api.Value) api.Value { return api.Value{Kind: api.Array, L: l} }
func dict(l ...api.Value) api.Value  { return api.Value{Kind: api.Dict, L: l} }
func ref(n int) api.Value            { return api.Value{Kind: api.Ref, N: n} }
func used(at int) api.Entry          { return api.Entry{At: at, Used: true} }
func free(at int) api.Entry          { return api.Entry{At: at} }
func later(at, gen int) api.Entry    { return api.Entry{At: at, Gen: gen, Used: true} }
func group(first int, l ...api.Entry) api.Group {
	return api.Group{First: first, Entries: l}
}
func section(trailer api.Value, l ...api.Group) xref.Section {
	return xref.Section{Groups: l, Trailer: trailer}
}

// trailer is one with a Root and a Size.
func trailer(root, size int) api.Value {
	return dict(name("Root"), ref(root), name("Size"), whole(size))
}

// part is a file of which some bytes are known: those at whose places unknown is a blank, not a bar.
type part struct {
	s       string
	unknown string
}

// all is a file of which all is known; none, one of which nothing is.
func all(s string) part  { return part{s, strings.Repeat(" ", len(s))} }
func none(s string) part { return part{s, strings.Repeat("|", len(s))} }

// but is the file with the bytes of a span unknown; and, with them known.
func (p part) but(from, to int) part { return p.with(from, to, "|") }
func (p part) and(from, to int) part { return p.with(from, to, " ") }
func (p part) with(from, to int, s string) part {
	return part{p.s, p.unknown[:from] + strings.Repeat(s, to-from) + p.unknown[to:]}
}

// first is the first place that is not known from one on, or the end.
func (p part) first(at int) int {
	if n := strings.Index(p.unknown[at:], "|"); n >= 0 {
		return at + n
	}
	return len(p.s)
}

// source is a source of the file, which is put to byte by byte.
func (p part) source(t *testing.T) *source.Source {
	t.Helper()
	s, e := source.New(len(p.s))
	for at := 0; at < len(p.s) && e == api.OK; {
		from := at + len(p.unknown[at:]) - len(strings.TrimLeft(p.unknown[at:], "|"))
		at = p.first(from)
		e = s.Put(from, []byte(p.s[from:at]))
	}
	if e != api.OK {
		t.Fatal(e)
	}
	return s
}

// start is Start by the chapter's words.
func (p part) start() (int, int, api.Errno) {
	tail := max(0, len(p.s)-64)
	if want := p.first(tail); want < len(p.s) {
		return 0, want, api.ErrMore
	}
	words := strings.Split(p.s[tail:], "startxref")
	n, _, e := parse.Number([]byte(words[len(words)-1]), 0, true)
	if len(words) == 1 || e != api.OK || n < 0 || n > len(p.s)-1 {
		return 0, 0, api.ErrStart
	}
	return n, 0, api.OK
}

// sections is Sections by the chapter's words, where those at some places were read already.
func (p part) sections(at int, read ...int) ([]xref.Section, int, api.Errno) {
	if at < 0 || at >= len(p.s) {
		return nil, 0, api.ErrXref
	}
	if slices.Contains(read, at) || len(read) == 32 {
		return nil, 0, api.ErrLoop
	}
	x, _, e := xref.Parse([]byte(p.s[at:p.first(at)]), 0, p.first(at) == len(p.s))
	if e == api.ErrMore {
		return nil, p.first(at), e
	}
	ahead, is := value.Get(x.Trailer, "Prev")
	if e != api.OK || is && ahead.Kind != api.Int {
		return nil, 0, api.ErrXref
	}
	if !is {
		return []xref.Section{x}, 0, api.OK
	}
	l, want, e := p.sections(ahead.N, append(read, at)...)
	if e != api.OK {
		return nil, want, e
	}
	return append([]xref.Section{x}, l...), 0, api.OK
}

// tableOf is Of by the chapter's words: entries are gone through from the last one on, so that the first one of a number stays.
func tableOf(l []xref.Section) (chain.Table, api.Errno) {
	if len(l) == 0 {
		return chain.Table{}, api.ErrXref
	}
	size, _ := value.Get(l[0].Trailer, "Size")
	if size.Kind != api.Int || size.N < 1 || size.N > 4097 {
		return chain.Table{}, api.ErrXref
	}
	root, _ := value.Get(l[0].Trailer, "Root")
	if root.Kind != api.Ref {
		return chain.Table{}, api.ErrRoot
	}
	t := chain.Table{Places: slices.Repeat([]int{-1}, size.N-1), Root: root.N}
	for _, x := range slices.Backward(l) {
		for _, g := range slices.Backward(x.Groups) {
			for i, e := range slices.Backward(g.Entries) {
				n := g.First + i
				if n < 1 || n >= size.N {
					continue
				}
				t.Places[n-1] = -1
				if e.Used && e.Gen == 0 {
					t.Places[n-1] = e.At
				}
			}
		}
	}
	return t, api.OK
}

// load is Load by the chapter's words.
func (p part) load() (chain.Table, int, api.Errno) {
	at, want, e := p.start()
	if e != api.OK {
		return chain.Table{}, want, e
	}
	l, want, e := p.sections(at)
	if e != api.OK {
		return chain.Table{}, want, e
	}
	t, e := tableOf(l)
	return t, 0, e
}

// few ends a test that has told enough: where one answer is wrong, thousands may be.
func few(t *testing.T) {
	t.Helper()
	if t.Failed() {
		t.FailNow()
	}
}

// brief is the beginning of anything as Go writes it.
func brief(x any) string { return fmt.Sprintf("%.200q", fmt.Sprint(x)) }

// Of the answers, what is alike: no list is alike with an empty one.
func sameSections(a, b []xref.Section) bool { return slices.EqualFunc(a, b, xref.Same) }
func sameTable(a, b chain.Table) bool       { return slices.Equal(a.Places, b.Places) && a.Root == b.Root }

// starts asks for Start's answer.
func starts(t *testing.T, p part, at, want int, e api.Errno) {
	t.Helper()
	if n, w, f := chain.Start(p.source(t)); n != at || w != want || f != e {
		t.Errorf("Start of %.200q: %d, %d, %v, want %d, %d, %v", p.s, n, w, f, at, want, e)
	}
	few(t)
}

// leads asks for Sections' answer.
func leads(t *testing.T, p part, at int, l []xref.Section, want int, e api.Errno) {
	t.Helper()
	if x, w, f := chain.Sections(p.source(t), at); !sameSections(x, l) || w != want || f != e {
		t.Errorf("Sections of %.200q from %d: %s, %d, %v, want %s, %d, %v", p.s, at, brief(x), w, f, brief(l), want, e)
	}
	few(t)
}

// loads asks for Load's answer.
func loads(t *testing.T, p part, x chain.Table, want int, e api.Errno) {
	t.Helper()
	if y, w, f := chain.Load(p.source(t)); !sameTable(x, y) || w != want || f != e {
		t.Errorf("Load of %.200q: %s, %d, %v, want %s, %d, %v", p.s, brief(y), w, f, brief(x), want, e)
	}
	few(t)
}

// tells asks for Of's answer.
func tells(t *testing.T, l []xref.Section, x chain.Table, e api.Errno) {
	t.Helper()
	if y, f := chain.Of(l); !sameTable(x, y) || f != e {
		t.Errorf("Of(%s): %s, %v, want %s, %v", brief(l), brief(y), f, brief(x), e)
	}
	few(t)
}

// finds asks for Find's answer.
func finds(t *testing.T, x chain.Table, n, at int, is bool) {
	t.Helper()
	if k, ok := chain.Find(x, n); k != at || ok != is {
		t.Errorf("Find(%s, %d): %d, %v, want %d, %v", brief(x), n, k, ok, at, is)
	}
	few(t)
}

// agrees asks that Start, Load, and Sections from some places on, answer what the chapter's words say, and tells Load's error.
func agrees(t *testing.T, p part, places ...int) api.Errno {
	t.Helper()
	at, want, e := p.start()
	starts(t, p, at, want, e)
	for _, at := range places {
		l, want, e := p.sections(at)
		leads(t, p, at, l, want, e)
	}
	x, want, e := p.load()
	loads(t, p, x, want, e)
	return e
}

// ends is what stands behind a file's sections.
func ends(at int) string { return "startxref\n" + strconv.Itoa(at) + "\n%%EOF\n" }

// printed is a file: what is ahead, and sections, printed one behind the other, each naming the one ahead by Prev. Told are also the sections as they are read, and where they stand, both from the last one on.
func printed(t *testing.T, ahead string, l ...xref.Section) (string, []xref.Section, []int) {
	t.Helper()
	s := ahead
	var read []xref.Section
	var places []int
	for i, x := range l {
		if i > 0 {
			x.Trailer = value.Put(x.Trailer, "Prev", whole(places[0]))
		}
		read = append([]xref.Section{x}, read...)
		places = append([]int{len(s)}, places...)
		b, e := xref.Print(x)
		if e != api.OK {
			t.Fatalf("%s: %v", brief(x), e)
		}
		s += string(b)
	}
	return s + ends(places[0]), read, places
}

// chance makes files by chance.
type chance struct{ *rand.Rand }

func newChance(k uint64) chance { return chance{rand.New(rand.NewPCG(17, k))} }

// pick is one of some texts.
func (c chance) pick(of ...string) string { return of[c.IntN(len(of))] }

// entry is one that may be, mostly of an object that is there.
func (c chance) entry() api.Entry {
	e := api.Entry{At: c.IntN(most), Used: c.IntN(4) > 0}
	if c.IntN(4) == 0 {
		e.Gen = c.IntN(3)
	}
	return e
}

// section is one of few numbers, so that others have the same.
func (c chance) section() xref.Section {
	x := section(trailer(1+c.IntN(9), 1+c.IntN(14)))
	for range c.IntN(4) {
		g := group(c.IntN(10))
		for range c.IntN(6) {
			g.Entries = append(g.Entries, c.entry())
		}
		x.Groups = append(x.Groups, g)
	}
	switch c.IntN(16) {
	case 0:
		x.Trailer = value.Drop(x.Trailer, "Size")
	case 1:
		x.Trailer = value.Put(x.Trailer, "Root", whole(1))
	}
	return x
}

// file is one of some sections, with what may be wrong about it, and where its sections stand.
func (c chance) file(t *testing.T) (string, []int) {
	var l []xref.Section
	for range 1 + c.IntN(5) {
		l = append(l, c.section())
	}
	s, _, places := printed(t, c.pick("", "", "%PDF-1.4\n", "1 0 obj 5 endobj\n"), l...)
	for c.IntN(4) == 0 {
		at := c.IntN(len(s))
		s = s[:at] + c.pick("", " ", "\n", "0", "1", "9", "/", "(", "%", "x", "startxref") + s[at+c.IntN(2):]
	}
	return s, places
}

// known is a file of which some bytes are known, by chance.
func (c chance) known(s string) part {
	p := all(s)
	if c.IntN(2) == 0 {
		p = none(s)
	}
	for range c.IntN(6) {
		from := c.IntN(len(s) + 1)
		to := min(len(s), from+c.IntN(len(s)+1))
		p = p.with(from, to, c.pick("|", " "))
	}
	if c.IntN(2) == 0 {
		p = p.and(max(0, len(s)-64), len(s))
	}
	return p
}

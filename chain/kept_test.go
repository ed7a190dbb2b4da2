package chain_test

import (
	"slices"
	"testing"

	"catchword/api"
	"catchword/chain"
	"catchword/source"
	"catchword/xref"
)

// withRoom is a list anew, of what anew makes of each, with spare room that has something in it.
func withRoom[T any](l []T, anew func(T) T, spare T) []T {
	m := make([]T, 0, len(l)+3)
	for _, x := range l {
		m = append(m, anew(x))
	}
	for i := range 3 {
		m[:len(l)+3][len(l)+i] = spare
	}
	return m
}

// spareIs tells whether a list that withRoom made still has that in its spare room.
func spareIs[T any](l []T, is func(T) bool) bool {
	for _, x := range l[len(l):cap(l)] {
		if !is(x) {
			return false
		}
	}
	return true
}

// roomy are sections anew, each of whose lists has spare room with what would tell something else.
func roomy(l []xref.Section) []xref.Section {
	return withRoom(l, func(x xref.Section) xref.Section {
		x.Groups = withRoom(x.Groups, func(g api.Group) api.Group {
			g.Entries = withRoom(g.Entries, func(e api.Entry) api.Entry { return e }, used(99))
			return g
		}, group(0, used(99), used(99), used(99)))
		x.Trailer.L = withRoom(x.Trailer.L, func(v api.Value) api.Value { return v }, name("Size"))
		return x
	}, section(trailer(99, 99), group(0, used(99), used(99))))
}

// untouched tells whether sections that roomy made are still those, their spare room included.
func untouched(r, l []xref.Section) bool {
	for _, x := range r {
		for _, g := range x.Groups {
			if !spareIs(g.Entries, func(e api.Entry) bool { return e == used(99) }) {
				return false
			}
		}
		if !spareIs(x.Groups, func(g api.Group) bool { return len(g.Entries) == 3 }) || !spareIs(x.Trailer.L, func(v api.Value) bool { return v.S == "Size" }) {
			return false
		}
	}
	return sameSections(r, l) && spareIs(r, func(x xref.Section) bool { return len(x.Groups) == 1 })
}

// scribble writes over all that sections have.
func scribble(l []xref.Section) {
	for _, x := range l {
		for _, g := range x.Groups {
			for i := range g.Entries {
				g.Entries[i] = api.Entry{At: -99, Gen: -99}
			}
		}
		for i := range x.Groups {
			x.Groups[i].First = -99
		}
		for i := range x.Trailer.L {
			x.Trailer.L[i] = whole(-99)
		}
	}
	for i := range l {
		l[i].Groups = nil
	}
}

func TestSectionsAreLeft(t *testing.T) { // P17.3 by rule R3: neither changed nor kept, their spare room neither read nor changed
	c := newChance(7)
	for range 3000 {
		var l []xref.Section
		for range c.IntN(4) {
			l = append(l, c.section())
		}
		r := roomy(l)
		x, e := chain.Of(r)
		if !untouched(r, l) {
			t.Fatalf("%s was changed: %s", brief(l), brief(r))
		}
		scribble(r)
		if y, f := tableOf(l); !sameTable(x, y) || e != f {
			t.Fatalf("%s with spare room: %s, %v", brief(l), brief(x), e)
		}
	}
}

func TestTablesAreLeft(t *testing.T) { // P17.3 by rule R3
	x := table(3, 5, -1, 7)
	for n := range 5 {
		chain.Find(x, n)
	}
	if !sameTable(x, table(3, 5, -1, 7)) {
		t.Error(x)
	}
}

func TestAnswersAreNobodyElses(t *testing.T) { // P17.2 to P17.4 by rule R3: what is answered may be changed
	file, want, places := printed(t, "", section(trailer(1, 3), group(0, free(0), used(9), used(30))), section(trailer(1, 4), group(2, used(50)), group(3, used(70))))
	s := all(file).source(t)
	for range 3 {
		l, _, e := chain.Sections(s, places[0])
		m, _, _ := chain.Sections(s, places[0])
		if e != api.OK || !sameSections(l, want) {
			t.Fatal(brief(l), e)
		}
		x, e := chain.Of(l)
		y, _ := chain.Of(l)
		z, _, _ := chain.Load(s)
		scribble(l)
		if !sameSections(m, want) {
			t.Fatal(brief(m))
		}
		good := table(1, 9, 50, 70)
		for _, k := range []chain.Table{x, y, z} {
			if e != api.OK || !sameTable(k, good) {
				t.Fatal(brief(k), e)
			}
			clear(k.Places[:cap(k.Places)])
		}
	}
}

func TestListsOfAnAnswerAreApart(t *testing.T) { // P17.2 by rule R3: no two lists of one answer are one
	g := group(1, used(5), used(6))
	file, want, places := printed(t, "", section(trailer(1, 3), g, g), section(trailer(1, 3), g, g), section(trailer(1, 3), g, g))
	s := all(file).source(t)
	for i := range want {
		l, _, _ := chain.Sections(s, places[0])
		scribble(l[i : i+1])
		l[i] = want[i]
		if !sameSections(l, want) {
			t.Errorf("what stands at %d is in another one too: %s", i, brief(l))
		}
	}
}

func TestAskingChangesNothing(t *testing.T) { // P17.1 to P17.4 by rule R4: the same twice, whatever was asked between, and the source is left
	c := newChance(8)
	for range 300 {
		file, places := c.file(t)
		p := c.known(file)
		s, other := p.source(t), p.source(t)
		known := s.Known()
		var first []answers
		for range 3 {
			for i, at := range places {
				a := told(s, at)
				if first = append(first, a); !alike(a, first[i]) {
					t.Fatalf("%q: another answer", file)
				}
				chain.Start(other)
				chain.Sections(other, c.IntN(len(file)+2)-1)
			}
		}
		if !slices.Equal(s.Known(), known) {
			t.Fatalf("%q: the source was changed", file)
		}
		x, want, e := p.load()
		loads(t, p, x, want, e)
	}
}

func alike(a, b answers) bool {
	return a.start == b.start && sameSections(a.sections, b.sections) && sameTable(a.table, b.table) && a.errors == b.errors && a.wants == b.wants
}

func TestSourcesAreApart(t *testing.T) { // P17.4 by rule R4: two files of the same length, and one of which more is known
	one := says("/Root 1 0 R/Size 1") + "startxref 0"
	two := says("/Root 2 0 R/Size 1") + "startxref 0"
	a, b := source.Whole([]byte(one)), source.Whole([]byte(two))
	part, _ := source.New(len(one))
	for range 3 {
		for root, s := range map[int]*source.Source{1: a, 2: b} {
			if x, want, e := chain.Load(s); x.Root != root || want != 0 || e != api.OK {
				t.Error(x, want, e)
			}
		}
		if _, want, e := chain.Load(part); want != 0 || e != api.ErrMore {
			t.Error(want, e)
		}
	}
}

package xref_test

import (
	"math"
	"math/rand/v2"
	"slices"
	"strings"
	"testing"

	"catchword/api"
	"catchword/xref"
)

// wrongTrailers are values that are no trailers, with Check's errors.
func wrongTrailers() map[api.Errno][]api.Value {
	return map[api.Errno][]api.Value{
		api.ErrArg:  {null(), truth(1), whole(5), millionths(5), text(""), name("Size"), array(), array(dict()), ref(1), ref(0), {Kind: 9}, {Kind: -1}, {Kind: api.Array, L: dict(name("A"), whole(1)).L}, name("\x00"), nested(null(), 64), {Kind: api.Dict, N: 1}, {Kind: api.Dict, S: "a"}, dict(name("A")), dict(whole(1), null()), dict(name("A"), ref(0)), dict(name("A"), ref(4097)), dict(name("A"), whole(most+1))},
		api.ErrName: {dict(name("\x00"), null()), dict(name("A"), name("A\x00")), dict(name(strings.Repeat("n", 128)), null())},
		api.ErrKey:  {dict(name("A"), null(), name("A"), null()), dict(name("B"), null(), name("A"), null()), dict(name("A"), dict(name("B"), null(), name("B"), null()))},
		api.ErrDeep: {dict(name("A"), nested(null(), 63)), dict(name("A"), nested(dict(), 63))},
	}
}

// checks asks for Check's answer, and that Print goes by it.
func checks(t *testing.T, x xref.Section, e api.Errno) {
	t.Helper()
	if f := xref.Check(x); f != e {
		t.Errorf("Check(%s): %v, want %v", brief(x), f, e)
	}
	b, f := xref.Print(x)
	if f != e || e != api.OK && b != nil || e == api.OK && string(b) != printed(x) {
		t.Errorf("Print(%s): %.300q, %v, want %v", brief(x), b, f, e)
	}
	few(t)
}

func TestCheckOfTrailers(t *testing.T) { // P15.1: value's errors behind all else
	for _, l := range [][]api.Group{nil, {}, groups(1), groups(64), {group(0, many(4097)...)}} {
		for _, v := range goodTrailers() {
			checks(t, section(v, l...), api.OK)
		}
		for e, vs := range wrongTrailers() {
			for _, v := range vs {
				checks(t, section(v, l...), e)
				checks(t, section(v, append(slices.Clone(l), group(-1))...), api.ErrArg)
				checks(t, section(v, append(slices.Clone(l), group(0, free(0, -1)))...), api.ErrArg)
				checks(t, section(v, groups(65)...), api.ErrArg)
			}
		}
	}
	checks(t, xref.Section{}, api.ErrArg)
}

func TestCheckOfGroups(t *testing.T) { // P15.1: how many groups, First, and First and how many together
	for n, e := range map[int]api.Errno{0: api.OK, 1: api.OK, 63: api.OK, 64: api.OK, 65: api.ErrArg, 66: api.ErrArg, 1000: api.ErrArg} {
		var same []api.Group
		for range n {
			same = append(same, group(7, used(17, 0)))
		}
		checks(t, section(dict(), same...), e)
		checks(t, section(dict(), make([]api.Group, n)...), e)
	}
	for _, first := range []int{math.MinInt, math.MinInt + 1, -4097, -2, -1, 4098, 4099, 1 << 31, 1 << 32, math.MaxInt - 1, math.MaxInt} {
		for _, n := range []int{0, 1, 2, 4097, 5000} {
			checks(t, section(dict(), group(first, many(n)...)), api.ErrArg)
			checks(t, section(dict(), group(0), group(first, many(n)...), group(0)), api.ErrArg)
		}
	}
	for _, first := range []int{0, 1, 2, 2048, 4095, 4096, 4097} {
		checks(t, section(dict(), group(first)), api.OK)
		checks(t, section(dict(), group(first, many(4097-first)...)), api.OK)
		checks(t, section(dict(), group(first, many(4098-first)...)), api.ErrArg)
		checks(t, section(dict(), group(0), group(first, many(4098-first)...), group(0)), api.ErrArg)
		checks(t, section(dict(), group(first, many(4097-first)...), group(first, many(4097-first)...)), api.OK)
	}
}

// edges are entries at the edges of what may be, and whether they may.
func edges() map[api.Entry]bool {
	m := map[api.Entry]bool{}
	places := map[int]bool{0: true, 1: true, 17: true, most - 1: true, most: true, -1: false, most + 1: false, 1 << 32: false, 9999999999: false, 10000000000: false, math.MinInt: false, math.MaxInt: false}
	gens := map[int]bool{0: true, 1: true, 3: true, 65534: true, 65535: true, -1: false, 65536: false, 99999: false, 100000: false, 1 << 32: false, math.MinInt: false, math.MaxInt: false}
	for at, a := range places {
		for gen, g := range gens {
			m[used(at, gen)], m[free(at, gen)] = a && g, a && g
		}
	}
	return m
}

func TestEntries(t *testing.T) { // P15.1: an entry's line, alone and in a section, and those that may not be
	for e, may := range edges() {
		want, f := "", api.ErrArg
		if may {
			want, f = line(e), api.OK
		}
		s, got := xref.Entry(e)
		if s != want || got != f || may && len(s) != 20 {
			t.Errorf("Entry(%v): %q, %v", e, s, got)
		}
		checks(t, section(dict(), group(5, e)), f)
		checks(t, section(dict(), group(5, used(17, 0), e)), f)
		checks(t, section(dict(), group(5, e, used(17, 0))), f)
		checks(t, section(dict(), group(5), group(0, used(17, 0)), group(5, used(17, 0), e, free(0, 0))), f)
	}
	for s, e := range map[string]api.Entry{"0000000017 00000 n \n": used(17, 0), "0000000000 65535 f \n": free(0, 65535), "2147483647 00003 n \n": used(most, 3), "0000000000 00000 f \n": {}} {
		if got, f := xref.Entry(e); got != s || f != api.OK {
			t.Errorf("Entry(%v): %q, %v", e, got, f)
		}
	}
}

func TestPrint(t *testing.T) { // P15.1: no groups, groups with nothing, and some with entries
	size := dict(name("Size"), whole(8))
	for _, c := range []struct {
		want string
		x    xref.Section
	}{
		{"xref\ntrailer\n<<>>\n", section(dict())},
		{"xref\n0 0\ntrailer\n<</Size 8>>\n", section(size, group(0))},
		{"xref\n4097 0\n0 0\ntrailer\n<</Size 8>>\n", section(size, group(4097), group(0))},
		{"xref\n0 2\n0000000000 65535 f \n0000000017 00000 n \n7 1\n2147483647 00003 n \ntrailer\n<</Size 8>>\n", section(size, group(0, free(0, 65535), used(17, 0)), group(7, used(most, 3)))},
	} {
		if b, e := xref.Print(c.x); string(b) != c.want || e != api.OK {
			t.Errorf("%q, %v, want %q", b, e, c.want)
		}
	}
}

func TestCheckByChance(t *testing.T) { // P15.1
	c := chance{rand.New(rand.NewPCG(15, 1))}
	seen := map[api.Errno]int{}
	for range 20000 {
		x := c.wrongSection()
		e := checked(x)
		checks(t, x, e)
		seen[e]++
		x = c.section()
		checks(t, x, api.OK)
	}
	if seen[api.OK] < 1000 || seen[api.ErrArg] < 1000 {
		t.Error(seen)
	}
}

// differ are sections, none of which is like another.
func differ() []xref.Section {
	a, b := used(17, 0), free(3, 1)
	l := []xref.Section{{}, {Groups: groups(1)}, section(dict(), group(0)), section(dict(), group(0), group(0)), section(dict(), group(1)), section(dict(), group(0), group(1)), section(dict(), group(1), group(0)), section(dict(), group(0, a)), section(dict(), group(0, b)), section(dict(), group(0, a, b)), section(dict(), group(0, b, a)), section(dict(), group(0, a), group(1, b)), section(dict(), group(0, a), group(0, b)), section(dict(), group(0, a, a)), section(dict(), group(1, a)), section(dict(), group(0, a), group(0)), section(dict(), group(0), group(0, a)), section(dict(), group(0, free(17, 0))), section(dict(), group(0, used(18, 0))), section(dict(), group(0, used(17, 1))), section(dict(), group(-1, a)), section(dict(), group(0, used(-17, 0))), section(array()), section(dict(name("A"), whole(1)), group(0, a)), section(dict(name("A"), ref(0)))}
	for _, v := range goodTrailers()[1:] {
		l = append(l, section(v), section(v, group(0)))
	}
	return l
}

func TestSame(t *testing.T) { // P15.1: sections that are alike, and that differ in one thing, may they be or not
	l, again := differ(), differ()
	for i, a := range l {
		for k, b := range again {
			if got := xref.Same(a, b); got != (i == k) {
				t.Errorf("Same(%s, %s): %v", brief(a), brief(b), got)
			}
		}
	}
	for _, v := range []api.Value{{Kind: api.Dict, L: nil}, {Kind: api.Dict, L: []api.Value{}}} { // no list, and an empty one
		for _, none := range [][]api.Group{nil, {}} {
			if !xref.Same(section(dict(), none...), xref.Section{Groups: []api.Group{}, Trailer: v}) || !xref.Same(xref.Section{Groups: none, Trailer: v}, section(dict())) {
				t.Error("groups")
			}
		}
		for _, none := range [][]api.Entry{nil, {}} {
			if !xref.Same(section(v, group(7, none...)), section(dict(), api.Group{First: 7, Entries: []api.Entry{}})) || !xref.Same(section(dict(), api.Group{First: 7}), section(v, api.Group{First: 7, Entries: none})) {
				t.Error("entries")
			}
		}
	}
}

func TestSameByChance(t *testing.T) { // P15.1
	c := chance{rand.New(rand.NewPCG(15, 2))}
	others := 0
	for range 20000 {
		a, b := c.section(), c.wrongSection()
		switch c.IntN(3) {
		case 0:
			b = section(a.Trailer)
			for _, g := range a.Groups {
				b.Groups = append(b.Groups, group(g.First, slices.Clone(g.Entries)...))
			}
			if len(b.Groups) > 0 && c.IntN(2) == 0 {
				g := &b.Groups[c.IntN(len(b.Groups))]
				g.Entries = append(g.Entries[:0:0], g.Entries[:c.IntN(len(g.Entries)+1)]...)
			}
		}
		if xref.Same(a, b) != alike(a, b) || xref.Same(b, a) != alike(a, b) || !xref.Same(a, a) {
			t.Fatalf("Same(%s, %s): %v", brief(a), brief(b), xref.Same(a, b))
		}
		if !alike(a, b) {
			others++
		}
	}
	if others < 5000 || others > 18000 {
		t.Error(others)
	}
}

// found is Find by the chapter's words.
func found(x xref.Section, n int) (api.Entry, bool) {
	for _, g := range x.Groups {
		for i, e := range g.Entries {
			if number := g.First + i; number == n && (i == 0 || number > g.First) {
				return e, true
			}
		}
	}
	return api.Entry{}, false
}

func TestFind(t *testing.T) { // P15.3: the first group that has the number, at each of its edges
	x := section(dict(), group(5, used(1, 0), free(2, 7), used(3, 0)), group(3), group(0, free(0, 65535)), group(4, used(4, 0), used(5, 0), used(6, 0), used(7, 0), used(8, 9)), group(5, used(9, 0)), group(4096, used(10, 0)), group(4097))
	want := map[int]api.Entry{0: free(0, 65535), 4: used(4, 0), 5: used(1, 0), 6: free(2, 7), 7: used(3, 0), 8: used(8, 9), 4096: used(10, 0)}
	for _, n := range []int{math.MinInt, -4097, -1, 0, 1, 2, 3, 4, 5, 6, 7, 8, 9, 10, 4095, 4096, 4097, 4098, 1 << 32, 1<<32 + 5, math.MaxInt} {
		w, is := want[n]
		if e, ok := xref.Find(x, n); e != w || ok != is {
			t.Errorf("Find %d: %v, %v", n, e, ok)
		}
	}
	for _, n := range []int{math.MinInt, -1, 0, 1, math.MaxInt} {
		for _, x := range []xref.Section{{}, section(dict()), section(dict(), group(n)), section(dict(), make([]api.Group, 3)...)} {
			if e, ok := xref.Find(x, n); e != (api.Entry{}) || ok {
				t.Errorf("Find %d: %v, %v", n, e, ok)
			}
		}
	}
}

func TestFindInWhatMayNotBe(t *testing.T) { // P15.3, R1: numbers of any First, and none that goes around
	numbers := []int{math.MinInt, math.MinInt + 1, math.MinInt + 2, math.MinInt + 3, -3, -2, -1, 0, 1, 2, 3, 5000, math.MaxInt - 3, math.MaxInt - 2, math.MaxInt - 1, math.MaxInt}
	for _, first := range numbers {
		for _, n := range []int{0, 1, 2, 3, 5} {
			x := section(null(), group(first, many(n)...), group(-1, used(-5, -6)))
			for _, k := range numbers {
				w, is := found(x, k)
				if e, ok := xref.Find(x, k); e != w || ok != is {
					t.Errorf("Find %d from %d on of %d: %v, %v, want %v, %v", k, first, n, e, ok, w, is)
				}
			}
		}
	}
}

func TestFindByChance(t *testing.T) { // P15.3
	c := chance{rand.New(rand.NewPCG(15, 3))}
	there := 0
	for range 5000 {
		x := c.wrongSection()
		for range 20 {
			n := c.number(4100)
			if len(x.Groups) > 0 && c.IntN(2) == 0 {
				n = x.Groups[c.IntN(len(x.Groups))].First - 1 + c.IntN(9)
			}
			w, is := found(x, n)
			e, ok := xref.Find(x, n)
			if e != w || ok != is {
				t.Fatalf("Find %d of %s: %v, %v", n, brief(x), e, ok)
			}
			if ok {
				there++
			}
		}
	}
	if there < 10000 || there > 90000 {
		t.Error(there)
	}
}

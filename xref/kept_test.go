package xref_test

import (
	"bytes"
	"math/rand/v2"
	"reflect"
	"testing"

	"catchword/api"
	"catchword/xref"
)

// roomy is a section anew, each of whose lists has spare room with something in it.
func roomy(x xref.Section) xref.Section {
	return xref.Section{Groups: withRoom(x.Groups, roomyGroup, spareGroup()), Trailer: roomyValue(x.Trailer)}
}

// withRoom is a list anew, of what anew makes of each, with spare room.
func withRoom[T any](l []T, anew func(T) T, spare T) []T {
	m := make([]T, 0, len(l)+3)
	for _, x := range l {
		m = append(m, anew(x))
	}
	for i := range m[len(m):cap(m)] {
		m[len(m):cap(m)][i] = spare
	}
	return m
}

func spareGroup() api.Group { return group(99, used(99, 99)) }
func spareValue() api.Value { return api.Value{Kind: api.Name, N: 77, S: "spare"} }

func roomyGroup(g api.Group) api.Group {
	g.Entries = withRoom(g.Entries, func(e api.Entry) api.Entry { return e }, used(99, 99))
	return g
}

func roomyValue(v api.Value) api.Value {
	v.L = withRoom(v.L, roomyValue, spareValue())
	return v
}

// untouched tells whether a section that roomy made is still x, its spare room included.
func untouched(r, x xref.Section) bool {
	for _, g := range r.Groups[len(r.Groups):cap(r.Groups)] {
		if !reflect.DeepEqual(g, spareGroup()) {
			return false
		}
	}
	for _, g := range r.Groups {
		for _, e := range g.Entries[len(g.Entries):cap(g.Entries)] {
			if e != used(99, 99) {
				return false
			}
		}
	}
	return alike(r, x) && untouchedValue(r.Trailer)
}

func untouchedValue(v api.Value) bool {
	for _, x := range v.L[len(v.L):cap(v.L)] {
		if !reflect.DeepEqual(x, spareValue()) {
			return false
		}
	}
	for _, x := range v.L {
		if !untouchedValue(x) {
			return false
		}
	}
	return true
}

// scribble writes over all lists of a section, their spare room included.
func scribble(x xref.Section) {
	for _, g := range x.Groups {
		scribbleEntries(g)
	}
	for i := range x.Groups[:cap(x.Groups)] {
		x.Groups[:cap(x.Groups)][i] = group(-99)
	}
	scribbleValue(x.Trailer)
}

func scribbleEntries(g api.Group) {
	for i := range g.Entries[:cap(g.Entries)] {
		g.Entries[:cap(g.Entries)][i] = free(-99, -99)
	}
}

func scribbleValue(v api.Value) {
	for _, x := range v.L {
		scribbleValue(x)
	}
	for i := range v.L[:cap(v.L)] {
		v.L[:cap(v.L)][i] = whole(-99)
	}
}

func TestSectionsAreLeft(t *testing.T) { // R3: neither changed nor kept, their spare room neither read nor changed
	c := chance{rand.New(rand.NewPCG(15, 7))}
	for range 4000 {
		x := c.section()
		if c.IntN(3) == 0 {
			x = c.wrongSection()
		}
		r := roomy(x)
		e := xref.Check(r)
		b, f := xref.Print(r)
		n := c.number(4100)
		y, is := xref.Find(r, n)
		if !xref.Same(r, x) || !xref.Same(x, r) || !untouched(r, x) || e != checked(x) || f != e {
			t.Fatalf("%s was changed: %s, %v, %v", brief(x), brief(r), e, f)
		}
		if w, ok := found(x, n); w != y || ok != is {
			t.Fatalf("Find %d of %s with spare room: %v, %v", n, brief(x), y, is)
		}
		scribble(r)
		if e == api.OK && string(b) != printed(x) {
			t.Fatalf("%s: %.300q", brief(x), b)
		}
		clear(b[:cap(b)])
		if b, _ = xref.Print(x); e == api.OK && string(b) != printed(x) {
			t.Fatalf("%s: %.300q", brief(x), b)
		}
	}
}

func TestBytesAreLeft(t *testing.T) { // R3: neither changed nor kept, their spare room neither read nor changed
	const spare = " 0 R ] >> " + one + "trailer<<>>"
	for _, s := range []string{"xref\n0 2\n0000000000 65535 f \n" + one + "7 1\n2147483647 00003 n \ntrailer\n<</A[1 0 R(x)]/B(y)>>", "xref trailer<</A<</B[7]>>>>", "xref 0 1\n" + one} {
		for n := range len(s) + 1 {
			room := []byte(s[:n] + spare)
			for at := range n + 1 {
				for _, last := range []bool{true, false} {
					x, to, e := xref.Parse(room[:n], at, last)
					if y, end, f := plainly(s[:n], at, last); !alike(x, y) || to != end || e != f {
						t.Fatalf("Parse(%q, %d, %v) with spare room: %s, %d, %v", s[:n], at, last, brief(x), to, e)
					}
				}
			}
			if !bytes.Equal(room, []byte(s[:n]+spare)) {
				t.Fatalf("%q was changed: %q", s[:n], room)
			}
		}
		b := []byte(s)
		x, _, _ := xref.Parse(b, 0, true)
		y, _, _ := xref.Parse(b, 0, true)
		clear(b)
		want, _, _ := plainly(s, 0, true)
		if !alike(x, want) {
			t.Errorf("%q was kept: %s", s, brief(x))
		}
		scribble(x)
		if !alike(y, want) {
			t.Errorf("%q: an answer hangs on another one: %s", s, brief(y))
		}
	}
}

func TestListsAreOnesOwn(t *testing.T) { // R3: no two lists of an answer are one
	x := section(dict(name("A"), array(whole(1)), name("B"), array(whole(2))), groups(20)...)
	b, _ := xref.Print(x)
	for i := range x.Groups {
		y, _, _ := xref.Parse(b, 0, true)
		scribbleEntries(y.Groups[i])
		for k := range y.Groups {
			if k != i && !alike(section(dict(), y.Groups[k]), section(dict(), x.Groups[k])) {
				t.Errorf("what stands at %d hangs on what stands at %d: %s", k, i, brief(y))
			}
		}
		if !alike(section(y.Trailer), section(x.Trailer)) {
			t.Error(brief(y))
		}
	}
}

func TestTheSameTwice(t *testing.T) { // R4: whatever was asked ahead
	x := section(dict(name("Size"), whole(8)), group(0, free(0, 65535), used(17, 0)))
	for range 3 {
		checks(t, x, api.OK)
		checks(t, section(dict(), group(-1)), api.ErrArg)
		comesBack(t, x)
		reads(t, "xref 0 1\n"+one+"trailer<<>>", 0, true, section(dict(), group(0, used(17, 0))), 40, api.OK)
		refuses(t, "xref 0 1\n"+one+"trailer 5", 0, true, api.ErrXref)
		cut(t, "xref 0 1\n"+one)
		if e, is := xref.Find(x, 1); e != used(17, 0) || !is {
			t.Error(e, is)
		}
		if e, is := xref.Find(x, 2); e != (api.Entry{}) || is {
			t.Error(e, is)
		}
		if s, e := xref.Entry(free(0, 65536)); s != "" || e != api.ErrArg {
			t.Error(s, e)
		}
		if s, e := xref.Entry(free(0, 65535)); s != "0000000000 65535 f \n" || e != api.OK {
			t.Error(s, e)
		}
	}
}

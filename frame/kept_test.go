package frame_test

import (
	"bytes"
	"math/rand/v2"
	"reflect"
	"testing"

	"catchword/api"
	"catchword/frame"
	"catchword/value"
)

// spare is what stands in spare room.
func spare() api.Value { return api.Value{Kind: api.Name, N: 77, S: "spare"} }

// roomy is a value anew, each of whose lists has spare room with something in it.
func roomy(v api.Value) api.Value {
	l := make([]api.Value, 0, len(v.L)+5)
	for _, x := range v.L {
		l = append(l, roomy(x))
	}
	fill := l[len(l):cap(l)]
	for i := range fill {
		fill[i] = spare()
	}
	v.L = l
	return v
}

// untouched tells whether a value that roomy made is still v, its spare room included.
func untouched(r, v api.Value) bool {
	if r.Kind != v.Kind || r.N != v.N || r.S != v.S || len(r.L) != len(v.L) {
		return false
	}
	for _, x := range r.L[len(r.L):cap(r.L)] {
		if !reflect.DeepEqual(x, spare()) {
			return false
		}
	}
	for i := range r.L {
		if !untouched(r.L[i], v.L[i]) {
			return false
		}
	}
	return true
}

// scribble writes over all lists of a value, their spare room included.
func scribble(v api.Value) {
	for _, x := range v.L {
		scribble(x)
	}
	for i := range v.L[:cap(v.L)] {
		v.L[:cap(v.L)][i] = whole(-99)
	}
}

// wrongObject is one that may not be, if it is not by chance one that may.
func (c chance) wrongObject() api.Object {
	o := c.object()
	switch c.IntN(4) {
	case 0:
		o.Stream = !o.Stream
	case 1:
		o.V = array(o.V, ref(0))
	case 2:
		o.V = value.Put(o.V, c.pick(hows()...), null())
	case 3:
		o.V.L = append(o.V.L, name("A"))
	}
	return o
}

func TestObjectsAreLeft(t *testing.T) { // R3: neither changed nor kept, their spare room neither read nor changed
	c := chance{rand.New(rand.NewPCG(14, 9))}
	for range 4000 {
		o := c.object()
		if c.IntN(3) == 0 {
			o = c.wrongObject()
		}
		r := o
		r.V = roomy(o.V)
		e := frame.Check(r)
		a, f := frame.Print(7, r, false)
		p, g := frame.Print(7, r, true)
		same := frame.Same(r, o) && frame.Same(o, r)
		if !untouched(r.V, o.V) || !same || f != e || g != e {
			t.Fatalf("%s was changed: %s, %v, %v, %v", brief(o), brief(r), e, f, g)
		}
		scribble(r.V)
		b, _ := frame.Print(7, o, false)
		q, _ := frame.Print(7, o, true)
		if !bytes.Equal(a, b) || !bytes.Equal(p, q) || frame.Check(o) != e {
			t.Fatalf("%s: %.300q, %.300q", brief(o), a, b)
		}
		clear(a[:cap(a)])
		clear(p[:cap(p)])
		if b, _ = frame.Print(7, o, false); e == api.OK && string(b) != printed(7, o) {
			t.Fatalf("%s: %.300q", brief(o), b)
		}
	}
}

func TestBytesAreLeft(t *testing.T) { // R3: neither changed nor kept, their spare room neither read nor changed
	spare := " 0 R ] >> endstream endobj 7 "
	for _, s := range []string{"5 0 obj<</A[1 0 R(x)]>>endobj", "7 0 obj<</Length 3/A(x)>>stream\r\nabc endstream endobj", packedText("catchword", "[/FlateDecode]")} {
		for n := range len(s) + 1 {
			room := []byte(s[:n] + spare)
			for at := range n + 1 {
				for _, last := range []bool{true, false} {
					k, o, to, e := frame.Parse(room[:n], at, last)
					if m, p, end, f := plainly(s[:n], at, last); k != m || !alike(o, p) || to != end || e != f {
						t.Fatalf("Parse(%q, %d, %v) with spare room: %d, %s, %d, %v", s[:n], at, last, k, brief(o), to, e)
					}
				}
			}
			if string(room) != s[:n]+spare {
				t.Fatalf("%q was changed: %q", s[:n], room)
			}
		}
		b := []byte(s)
		_, o, _, _ := frame.Parse(b, 0, true)
		_, p, _, _ := frame.Parse(b, 0, true)
		clear(b)
		_, want, _, e := plainly(s, 0, true)
		if !alike(o, want) || e != api.OK {
			t.Errorf("%q was kept: %s", s, brief(o))
		}
		scribble(o.V)
		if !alike(p, want) {
			t.Errorf("%q: an answer hangs on another one: %s", s, brief(p))
		}
	}
}

func TestListsAreOnesOwn(t *testing.T) { // R3: no two lists of an answer are one
	for _, s := range []string{"1 0 obj<</A[1]/B[2 3]/C<</D[4]>>/Length 3/Y[5]/Z[[6][7]]>>stream\nabc endstream endobj", "1 0 obj<</A[1]/B[2 3]/C<</D[4]>>/Y[5]/Z[[6][7]]>>endobj"} {
		_, o, _, _ := frame.Parse([]byte(s), 0, true)
		_, want, _, _ := plainly(s, 0, true)
		for i := range o.V.L {
			scribble(o.V.L[i])
			for k := i + 1; k < len(o.V.L); k++ {
				if !value.Same(o.V.L[k], want.V.L[k]) {
					t.Errorf("what stands at %d hangs on what stands at %d: %s", k, i, brief(o))
				}
			}
		}
	}
}

func TestTheSameTwice(t *testing.T) { // R4: whatever was asked ahead
	for range 3 {
		prints(t, 5, plain(whole(7)), "5 0 obj\n7\nendobj\n")
		refusesPrint(t, 0, plain(whole(7)), api.ErrArg)
		packs(t, 5, stream("abc", name("A"), null()))
		refusesPrint(t, 5, stream("abc", name("Filter"), null()), api.ErrArg)
		prints(t, 5, stream("abc"), "5 0 obj\n<</Length 3>>\nstream\nabc\nendstream\nendobj\n")
		stands(t, "5 0 obj 7 endobj", 5, plain(whole(7)))
		fails(t, "5 0 obj 7 endstream", api.ErrFrame)
		stands(t, packedText("abc", "/FlateDecode"), 7, stream("abc"))
		cut(t, "5 0 obj")
		checks(t, plain(ref(0)), api.ErrArg)
		checks(t, plain(ref(1)), api.OK)
	}
}

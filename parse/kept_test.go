package parse_test

import (
	"bytes"
	"math/rand/v2"
	"strings"
	"testing"

	"catchword/api"
	"catchword/lex"
	"catchword/parse"
	"catchword/value"
)

// holds asks that what is told of a file's first bytes is told of all of it, at every length of them.
func holds(t *testing.T, s string, at int) {
	t.Helper()
	whole, end, e := parse.Value([]byte(s), at, true)
	n, nend, ne := parse.Number([]byte(s), at, true)
	wend, we := parse.Word([]byte(s), at, true, "obj")
	told := [3]bool{}
	tells := func(i int, f api.Errno, same bool) {
		if f == api.ErrMore && told[i] {
			t.Errorf("%.300q, from %d on, needs more, though fewer bytes told it (%d)", s, at, i)
		}
		if f != api.ErrMore && !same {
			t.Errorf("%.300q, from %d on, is told otherwise by its first bytes (%d)", s, at, i)
		}
		told[i] = told[i] || f != api.ErrMore
	}
	for k := at; k <= len(s); k++ {
		b := []byte(s[:k])
		v, to, f := parse.Value(b, at, false)
		tells(0, f, value.Same(v, whole) && to == end && f == e)
		m, to, f := parse.Number(b, at, false)
		tells(1, f, m == n && to == nend && f == ne)
		to, f = parse.Word(b, at, false, "obj")
		tells(2, f, to == wend && f == we)
	}
	few(t)
}

func TestFirstBytesTellTheWhole(t *testing.T) { // P12.3
	for _, s := range []string{"<</B 1.5%c\n/A[1 2 3 0 R true null(x)]>> ", "12 0 R ]", "12 0 RR ", "12 0 obj ", "[1 2 R 3]", "[1 0 R]", "1 0 ) ", "1 ) ", "1 0 (x) ", "1 0 >> ", "1 0 > ", "[0 0 R]", "<<1 0 R>>", "<<0 0 R>>", "<<1 2>>", "<</A>>", "<</A 1/A 2>>", "<</A 1/A 2)", "obj ", "objx ", "true ", "trueR ", "/#41#4 ", "[/#4 1 ", "]", "[>>", "<<]", "> ", "[<4 g", "4000000000 ", strings.Repeat("[", 66), strings.Repeat("[", 64) + "1 0 R ", strings.Repeat("[", 64) + "0 0 R ", strings.Repeat("[", 63) + "<</A 1>>", "<<[", "[(a\\", "%c\n1 %0\n0%R\nR "} {
		for at := range len(s) + 1 {
			holds(t, s, at)
		}
	}
	texts([]string{"1 ", "0 ", "R ", "obj", " ", "]", "[", "<<", ">>", "/A ", "(x", ")"}, 4, func(s string) { holds(t, s, 0) })
	r := rand.New(rand.NewPCG(12, 5))
	of := append(pieces(), wrongPieces()...)
	for range 60000 {
		var s strings.Builder
		s.WriteString([]string{"", "[", "<<", "<</A "}[r.IntN(4)])
		for range r.IntN(8) {
			s.WriteString(of[r.IntN(len(of))])
		}
		holds(t, s.String(), r.IntN(s.Len()+1))
		holds(t, s.String(), 0)
	}
}

func TestWhatIsReadMayBe(t *testing.T) { // P12.3: bytes by chance, and values that are changed in a byte
	r := rand.New(rand.NewPCG(12, 6))
	read := 0
	for i := range 100000 {
		s, _ := grow(r, 4)
		b := []byte(s)
		if i%2 == 0 {
			b = b[:0]
			for range r.IntN(20) {
				b = append(b, "[]<>()/%#R01 4A\\n\n.-true"[r.IntN(24)])
			}
		} else if len(b) > 0 {
			b[r.IntN(len(b))] = "[]<>()/%#R0 9"[r.IntN(13)]
		}
		for _, last := range []bool{true, false} {
			v, to, e := parse.Value(b, 0, last)
			if f := value.Check(v); f != api.OK || e != api.OK && (to != 0 || !value.Same(v, null())) || to > len(b) {
				t.Errorf("Value(%q, 0, %v): %s, %d, %v may not be: %v", b, last, brief(v), to, e, f)
			}
			if e == api.OK {
				read++
			}
		}
		if v, e := parse.Whole(b); value.Check(v) != api.OK || e != api.OK && !value.Same(v, null()) {
			t.Errorf("Whole(%q): %s, %v", b, brief(v), e)
		}
		agrees(t, string(b), 0)
	}
	if read < 10000 {
		t.Error(read)
	}
}

func TestWhatIsHandedInIsLeft(t *testing.T) { // R3: neither changed nor kept, its spare room neither read nor changed
	s := "<</B[1 0 R(a\\(b)]/A<</N#42 .5>>/C 7>>"
	spare := " 0 R ] >> ) /N"
	for n := range len(s) + 1 {
		room := []byte(s[:n] + spare)
		b := room[:n]
		for _, last := range []bool{true, false} {
			for at := range n + 1 {
				v, to, e := parse.Value(b, at, last)
				if want, end, f := plainly([]byte(s[:n]), at, last); !value.Same(v, want) || to != end || e != f {
					t.Errorf("Value(%q, %d, %v) with spare room: %s, %d, %v", b, at, last, brief(v), to, e)
				}
				parse.Number(b, at, last)
				parse.Word(b, at, last, "obj")
			}
		}
		if parse.Whole(b); !bytes.Equal(room, []byte(s[:n]+spare)) {
			t.Errorf("%q was changed: %q", s[:n], room)
		}
	}
	b := []byte(s)
	v, _, _ := parse.Value(b, 0, true)
	w, _ := parse.Whole(b)
	clear(b)
	if want, _, _ := plainly([]byte(s), 0, true); !value.Same(v, want) || !value.Same(w, want) {
		t.Error(brief(v), brief(w))
	}
}

// scribble writes over all lists of a value, their spare room included.
func scribble(v api.Value) {
	for _, x := range v.L {
		scribble(x)
	}
	l := v.L[:cap(v.L)]
	for i := range l {
		l[i] = whole(-99)
	}
}

func TestListsAreOnesOwn(t *testing.T) { // R3: no two lists of an answer are one, and none is another answer's
	b := []byte("[[1 2 3][4 5 6][[]<<>>]<</B[1]/A[1]>>[7][8 9]]")
	v, _, _ := parse.Value(b, 0, true)
	w, _ := parse.Whole(b)
	want, _, _ := plainly(b, 0, true)
	for i := range v.L {
		scribble(v.L[i])
		for k := i + 1; k < len(v.L); k++ {
			if !value.Same(v.L[k], want.L[k]) {
				t.Errorf("what stands at %d hangs on what stands at %d: %s", k, i, brief(v.L[k]))
			}
		}
	}
	if !value.Same(w, want) {
		t.Error(brief(w))
	}
	reads(t, string(b), 0, true, want, len(b), api.OK)
}

func TestTheSameTwice(t *testing.T) { // R4
	for range 3 {
		reads(t, "[1 0 R<</A 1>>]", 0, true, array(ref(1), dict(name("A"), whole(1))), 15, api.OK)
		reads(t, "[[[", 0, true, null(), 0, api.ErrCut)
		reads(t, "]", 0, true, null(), 0, api.ErrForm)
		wholes(t, "7", whole(7), api.OK)
		numbers(t, "7 0 R", 0, true, 7, 1, api.OK)
		says(t, "obj", 0, true, "obj", 3, api.OK)
	}
}

func TestAllBytes(t *testing.T) { // R1: each byte at each place of values ends, and is what the chapter's words say
	for _, s := range []string{"[1 0 R]", "<</A 1>>", "[true(x)]", "<</A[]/B 7>>"} {
		for at := range s {
			for c := range 256 {
				b := []byte(s)
				b[at] = byte(c)
				agrees(t, string(b), 0)
				agrees(t, s[:at]+string([]byte{byte(c)})+s[at:], 0)
			}
		}
	}
	for _, kind := range []int{lex.Open, lex.Close, lex.OpenDict, lex.CloseDict} {
		s := []string{"", "", "[", "]", "<<", ">>"}[kind]
		agrees(t, strings.Repeat(s, 3000), 0)
	}
}

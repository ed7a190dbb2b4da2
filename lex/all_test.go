package lex_test

import (
	"bytes"
	"math/rand/v2"
	"strings"
	"testing"

	"catchword/api"
	"catchword/lex"
)

// alls asks for All's answer.
func alls(t *testing.T, s string, want []lex.Token, to int, e api.Errno) {
	t.Helper()
	l, got, f := lex.All([]byte(s))
	if got != to || f != e || len(l) != len(want) {
		t.Errorf("All(%.60q): %+v, %d, %v, want %+v, %d, %v", s, l, got, f, want, to, e)
		return
	}
	for i, u := range l {
		if !alike(u, want[i]) {
			t.Errorf("All(%.60q): %+v stands at %d, want %+v", s, u, i, want[i])
		}
	}
}

func TestAll(t *testing.T) { // P10.3
	alls(t, "1 0 obj% x\n<</K[/N 2 0 R]>>endobj", []lex.Token{
		placed(whole(1), 0, 1), placed(whole(0), 2, 3), placed(word("obj"), 4, 7), placed(bracket(lex.OpenDict), 11, 13), placed(name("K"), 13, 15), placed(bracket(lex.Open), 15, 16),
		placed(name("N"), 16, 18), placed(whole(2), 19, 20), placed(whole(0), 21, 22), placed(word("R"), 23, 24), placed(bracket(lex.Close), 24, 25), placed(bracket(lex.CloseDict), 25, 27), placed(word("endobj"), 27, 33),
	}, 33, api.OK)
	alls(t, " (a)<41>.5 true \n% end", []lex.Token{placed(text("a"), 1, 4), placed(text("A"), 4, 8), placed(millionths(500000), 8, 10), placed(word("true"), 11, 15)}, 15, api.OK)
	alls(t, "7", []lex.Token{placed(whole(7), 0, 1)}, 1, api.OK)
	alls(t, "/", []lex.Token{placed(name(""), 0, 1)}, 1, api.OK)
	alls(t, "[[", []lex.Token{placed(bracket(lex.Open), 0, 1), placed(bracket(lex.Open), 1, 2)}, 2, api.OK)
	alls(t, "[ ", []lex.Token{placed(bracket(lex.Open), 0, 1)}, 1, api.OK)
}

func TestAllOfNoTokens(t *testing.T) { // P10.3
	for _, s := range []string{"", " ", " \n\x00", "%", "% a", "  % a\n "} {
		alls(t, s, nil, 0, api.OK)
	}
	if l, to, e := lex.All(nil); len(l) != 0 || to != 0 || e != api.OK {
		t.Error(l, to, e)
	}
}

func TestAllUpToAnError(t *testing.T) { // P10.3: its place is that of its token's first byte
	for s, e := range map[string]api.Errno{")": api.ErrForm, "{ 1 2": api.ErrForm, "}": api.ErrForm, ">": api.ErrForm, "> >": api.ErrForm, "(a": api.ErrCut, "(a(b) [": api.ErrCut, "<": api.ErrCut, "<41": api.ErrCut, "<4g> 1": api.ErrForm, "-": api.ErrForm, "1.2.3 4": api.ErrForm, "2147483648 1": api.ErrRange, "/a#0": api.ErrName, "/#00 1": api.ErrName, "/" + strings.Repeat("n", 128) + " )": api.ErrName} {
		alls(t, s, nil, 0, e)
		alls(t, " %\n"+s, nil, 3, e)
		alls(t, "[ 1 % )\n "+s, []lex.Token{placed(bracket(lex.Open), 0, 1), placed(whole(1), 2, 3)}, 9, e)
		alls(t, "(a)"+s, []lex.Token{placed(text("a"), 0, 3)}, 3, e)
	}
}

// allPlainly is All by the chapter's words.
func allPlainly(b []byte) ([]lex.Token, int, api.Errno) {
	var l []lex.Token
	to := 0
	for {
		u, e := plainly(b, to, true)
		if e != api.OK {
			return l, u.From, e
		}
		if u.Kind == lex.End {
			return l, to, api.OK
		}
		l, to = append(l, u), u.To
	}
}

// pieces are what files are made of, wrongPieces what they should not be made of.
func pieces() []string {
	return []string{" ", "\n", "\x00", "%c\n", "%", "[", "]", "<<", ">>", "1 ", "0 ", "-7.5 ", "12", "(a)", "(a(b)\\)c)", "(\\12", "(\r\n)", "<41>", "<4 ", "/N ", "/A#42", "/", "true ", "R ", "obj\n", "R"}
}

func wrongPieces() []string {
	return []string{")", "}", ">", "<", "(", "#0", "/#", ".", "4000000000 ", "g>"}
}

func TestAllOfManyTexts(t *testing.T) { // P10.3
	r := rand.New(rand.NewPCG(10, 3))
	seen := map[api.Errno]int{}
	bad := append(pieces(), wrongPieces()...)
	for i := range 50000 {
		of := pieces()
		if i%2 == 0 {
			of = bad
		}
		var s strings.Builder
		for range r.IntN(10) {
			s.WriteString(of[r.IntN(len(of))])
		}
		l, to, e := allPlainly([]byte(s.String()))
		alls(t, s.String(), l, to, e)
		few(t)
		seen[e]++
	}
	for _, e := range []api.Errno{api.OK, api.ErrCut, api.ErrForm, api.ErrName, api.ErrRange} {
		if seen[e] < 500 {
			t.Error(seen)
		}
	}
}

func TestAllOfMuch(t *testing.T) { // P10.3, and R1
	n := 1 << 18
	for s, each := range map[string]int{"[": 1, "/N": 1, "(a)": 1, "<<": 1, "7 ": 1, "/N 1": 2, "% )\nobj ": 1, "<41>]": 2} {
		l, to, e := lex.All([]byte(strings.Repeat(s, n)))
		if len(l) != n*each || to != n*len(s)-strings.Count(s[len(s)-1:], " ") || e != api.OK {
			t.Errorf("All of many %q: %d, %d, %v", s, len(l), to, e)
		}
	}
	deep := strings.Repeat("(", n) + strings.Repeat(")", n)
	alls(t, deep, []lex.Token{placed(text(deep[1:len(deep)-1]), 0, len(deep))}, len(deep), api.OK)
	long := strings.Repeat("41", n)
	alls(t, "<"+long+">", []lex.Token{placed(text(strings.Repeat("A", n)), 0, 2*n+2)}, 2*n+2, api.OK)
	alls(t, long[:n]+"R "+")", nil, 0, api.ErrForm)
	alls(t, "x"+long, []lex.Token{placed(word("x"+long), 0, 2*n+1)}, 2*n+1, api.OK)
}

// holds asks that what is told of a file's first bytes is told of all of it, at every length of them, and that more of them is wanted only where it may change what is told.
func holds(t *testing.T, s string, at int) {
	t.Helper()
	whole, e := lex.Next([]byte(s), at, true)
	told := false
	for n := at; n <= len(s); n++ {
		u, f := lex.Next([]byte(s[:n]), at, false)
		if f == api.ErrMore {
			if told {
				t.Errorf("Next(%.60q, %d) asks for more, though fewer than %d bytes told it", s, at, n)
			}
			continue
		}
		told = true
		if !alike(u, whole) || f != e {
			t.Errorf("Next(%.60q, %d) is told as %+v, %v by %d bytes, and as %+v, %v by all", s, at, u, f, n, whole, e)
		}
	}
	few(t)
}

func TestFirstBytesTellTheWhole(t *testing.T) { // P10.4
	for _, s := range []string{"/A#42c ]", "(a(b)\\12\\\r\nc\r\nd) 1", "<4 1 4> 2", "<4 g> 2", "<41<", "-7.5 ", "1.2.3 ", "4000000000 ", "endobj\n", "<</N", ">>", "> >", ") ", "{}", "%a\n%b\r [", "(\\", "(\\1", "(\r", "/#", "/#00 ", "/" + strings.Repeat("n", 128) + " ", "12", "/Na", "obj", "  % c"} {
		for at := range len(s) + 1 {
			holds(t, s, at)
		}
	}
	texts("()<>/% \n#4a\\", 4, func(s string) { holds(t, s+") ", 0) })
	texts("()\\\r\n17", 5, func(s string) { holds(t, "("+s, 0) })
	r := rand.New(rand.NewPCG(10, 4))
	of := append(pieces(), wrongPieces()...)
	for range 20000 {
		var s strings.Builder
		for range r.IntN(6) {
			s.WriteString(of[r.IntN(len(of))])
		}
		for at := range s.Len() + 1 {
			holds(t, s.String(), at)
		}
	}
}

func TestWhatIsHandedInIsLeft(t *testing.T) { // R3: neither changed nor kept, its spare room neither read nor changed
	s := "(abc)<41>/N#42 12 word -.5"
	for n := range len(s) + 1 {
		room := []byte(s + ") > ]")
		b := room[:n]
		for _, last := range []bool{true, false} {
			for at := range n + 1 {
				u, e := lex.Next(b, at, last)
				if want, f := plainly([]byte(s[:n]), at, last); !alike(u, want) || e != f {
					t.Errorf("Next(%q, %d, %v) with spare room: %+v, %v", b, at, last, u, e)
				}
			}
		}
		l, to, e := lex.All(b)
		if !bytes.Equal(room, []byte(s+") > ]")) {
			t.Errorf("%q was changed: %q", s[:n], room)
		}
		clear(room)
		want, end, f := allPlainly([]byte(s[:n]))
		if len(l) != len(want) || to != end || e != f {
			t.Errorf("All(%q) with spare room: %+v, %d, %v", s[:n], l, to, e)
			continue
		}
		for i := range l {
			if !alike(l[i], want[i]) {
				t.Errorf("%+v was kept, and is %+v now", want[i], l[i])
			}
		}
	}
}

func TestTheSameTwice(t *testing.T) { // R4
	b := []byte("(a(b)) <41> /N#42 word )")
	first, to, e := lex.All(b)
	for range 3 {
		l, n, f := lex.All(b)
		if len(l) != 4 || len(first) != 4 || n != to || f != e || e != api.ErrForm || to != 23 {
			t.Fatal(l, n, f)
		}
		for i := range l {
			if !alike(l[i], first[i]) {
				t.Error(l[i], first[i])
			}
		}
		l[0] = lex.Token{}
	}
}

package frame_test

import (
	"bytes"
	"math/rand/v2"
	"strings"
	"testing"

	"catchword/api"
	"catchword/frame"
)

// comesBack asks that an object is parsed from what is printed of it, packed or not, whatever is behind.
func comesBack(t *testing.T, n int, o api.Object, behind ...string) {
	t.Helper()
	for _, packed := range []bool{true, false} {
		b, e := frame.Print(n, o, packed)
		if e != api.OK {
			t.Fatalf("Print(%d, %s, %v): %v", n, brief(o), packed, e)
		}
		s, to := string(b), len(b)-1
		for _, more := range behind {
			reads(t, s+more, 0, true, n, o, to, api.OK)
			reads(t, s+more, 0, false, n, o, to, api.OK)
			reads(t, more+"\n"+s+more, len(more)+1, false, n, o, len(more)+1+to, api.OK)
		}
		reads(t, s[:to], 0, true, n, o, to, api.OK)
		for _, k := range []int{0, 1, to / 2, to - 7, to - 1, to} {
			refuses(t, s[:k], 0, false, api.ErrMore)
		}
	}
}

func TestPrintedIsParsed(t *testing.T) { // P14.4
	more := append(behind(), "", "endobj", "x", "1 0 R", "\x00\xff", "\nendstream\nendobj\n")
	for _, v := range goodValues() {
		comesBack(t, 1, plain(v), more...)
		comesBack(t, 4096, plain(v), more...)
		for _, data := range []string{"", "x", "\n", "\r\n", "endstream", "\nendstream\nendobj\n", "\x00", strings.Repeat("catchword ", 500)} {
			if v.Kind == api.Dict {
				comesBack(t, 12, api.Object{V: v, Stream: true, Data: data}, more...)
			}
		}
	}
	for a := range 256 {
		s := string([]byte{byte(a)})
		comesBack(t, 1, stream(s), s, s+"\n", "\n"+s)
		comesBack(t, 1, plain(text(s)), s)
		comesBack(t, 1, plain(whole(a)), s)
	}
	for _, s := range nearHows() {
		comesBack(t, 1, stream("abc", name(s), name("FlateDecode")), "")
	}
}

func TestPrintedIsParsedByChance(t *testing.T) { // P14.4
	c := chance{rand.New(rand.NewPCG(14, 6))}
	for range 3000 {
		comesBack(t, 1+c.IntN(4096), c.object(), c.data())
	}
	for range 20 {
		data := make([]byte, c.IntN(100000))
		for i := range data {
			data[i] = byte(c.Uint32()) & byte(c.Uint32())
		}
		comesBack(t, 1+c.IntN(4096), stream(string(data)), c.data())
	}
}

// holds asks that what is told of a file's first bytes is told of all of it, at every length of them, and tells it.
func holds(t *testing.T, s string, at int) api.Errno {
	t.Helper()
	n, o, to, e := frame.Parse([]byte(s), at, true)
	told := false
	for k := at; k <= len(s); k++ {
		m, p, end, f := frame.Parse([]byte(s[:k]), at, false)
		if f == api.ErrMore && told {
			t.Errorf("%.300q, from %d on, needs more than %d bytes, though fewer told it", s, at, k)
		}
		if f != api.ErrMore && (m != n || !alike(p, o) || end != to || f != e) {
			t.Errorf("%.300q, from %d on, is told otherwise by %d bytes: %v and %v", s, at, k, f, e)
		}
		told = told || f != api.ErrMore
		few(t)
	}
	return e
}

// pieces are what objects are made of, and what they should not be made of.
func pieces() []string {
	return strings.Split("1 |0 |0 obj|obj |7 0 obj|7 0 obj|<<|>>|[|]|/Length 3|/Length 0|<</Length 1>>|<</Length 1>>|/Filter/FlateDecode|/DecodeParms|/A|stream\n|stream\r\n|stream\r|stream|abc|\n|endstream|endstream |endobj|endobj |(x)|(|)|x|%|\x00|5000 |R |4000000000 |/#0", "|")
}

func TestFirstBytesTellTheWhole(t *testing.T) { // P14.4
	for _, s := range []string{"5 0 obj\n7\nendobj\n", "5 0 obj 7 0 R endobj ", "5 0 obj 7 0 endobj ", "%c\n12 0 obj<</Length 3/A[1 0 R]>>stream\nabc\nendstream endobj ", "7 0 obj<</Length 3>>stream\r\nabcendstream%\nendobj\r", "7 0 obj<</Length 3>>stream\rabc ", "7 0 obj<</Length 3>>streamabc ", "7 0 obj<<>>stream\n", "7 0 obj 7 endobjx ", "0 0 obj ", "7 1 obj ", "7 0 objx ", packedText("endobj", "/FlateDecode") + " ", packedText("endobj", "[/FlateDecode]") + "\n", around("/Filter/FlateDecode", "abc") + "\n", packedText("abc", "/X") + "\n"} {
		for at := range len(s) + 1 {
			holds(t, s, at)
		}
	}
	var put func(s string, n int)
	put = func(s string, n int) {
		agrees(t, s, 0)
		holds(t, s, 0)
		for _, p := range pieces() {
			if n > 0 {
				put(s+p, n-1)
			}
		}
	}
	put("", 2)
	put("7 0 obj", 2)
	put("7 0 obj<</Length 1>>", 2)
	put("7 0 obj<</Length 1>>stream\nx", 2)
}

func TestFirstBytesByChance(t *testing.T) { // P14.3, P14.4: texts of pieces, and objects that are changed in a byte
	c := chance{rand.New(rand.NewPCG(14, 7))}
	seen := map[api.Errno]int{}
	for range 12000 {
		s := c.pick("", "7 0 obj", "7 0 obj", "7 0 obj<<", "7 0 obj<</Length 3", "7 0 obj<</Length 3>>stream\n")
		for range c.IntN(9) {
			s += c.pick(pieces()...)
		}
		agrees(t, s, c.IntN(len(s)+1))
		agrees(t, s, 0)
		seen[holds(t, s, 0)]++
	}
	for range 4000 {
		b, _ := frame.Print(1+c.IntN(4096), c.object(), c.IntN(2) == 0)
		if len(b) > 400 {
			continue
		}
		s := string(b) + c.data()
		if at := c.IntN(len(b)); c.IntN(3) > 0 {
			s = s[:at] + c.pick("", "\x00", " ", "\n", "\r", "x", "0", "9", "/", "(", ")", ">", "<", "%", s[at:at+1]) + s[at+c.IntN(2):]
		}
		agrees(t, s, 0)
		seen[holds(t, s, 0)]++
	}
	for _, e := range []api.Errno{api.OK, api.ErrCut, api.ErrForm, api.ErrFrame, api.ErrName} {
		if seen[e] < 100 {
			t.Error(seen)
		}
	}
}

func TestPacksOfOthersAreParsed(t *testing.T) { // P14.4: with how it was packed forgotten, an object's bytes not packed are alike
	c := chance{rand.New(rand.NewPCG(14, 8))}
	for range 1000 {
		o := c.object()
		b, _ := frame.Print(7, o, true)
		_, p, _, e := frame.Parse(b, 0, false)
		again, f := frame.Print(7, p, false)
		want, _ := frame.Print(7, o, false)
		if e != api.OK || f != api.OK || !bytes.Equal(again, want) || frame.Check(p) != api.OK {
			t.Fatalf("%s: %v, %.300q, %v", brief(o), e, again, f)
		}
	}
}

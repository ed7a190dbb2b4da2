package xref_test

import (
	"math/rand/v2"
	"strings"
	"testing"

	"catchword/api"
	"catchword/xref"
)

// comesBack asks that a section is parsed from what is printed of it, whatever is behind.
func comesBack(t *testing.T, x xref.Section, behind ...string) {
	t.Helper()
	b, e := xref.Print(x)
	if e != api.OK {
		t.Fatalf("Print(%s): %v", brief(x), e)
	}
	s, to := string(b), len(b)-1
	for _, more := range append(behind, "") {
		reads(t, s+more, 0, true, x, to, api.OK)
		reads(t, s+more, 0, false, x, to, api.OK)
		reads(t, more+"\n"+s+more, len(more)+1, false, x, len(more)+1+to, api.OK)
	}
	reads(t, s[:to], 0, false, x, to, api.OK)
	for _, k := range []int{0, 1, to / 2, to - 7, to - 1} {
		refuses(t, s[:k], 0, false, api.ErrMore)
	}
}

func TestPrintedIsParsed(t *testing.T) { // P15.4
	more := append(behind(), "\xff", "xref\n0 1\n"+one+"trailer\n<<>>\n", "startxref\n7\n%%EOF\n")
	for _, v := range goodTrailers() {
		for _, n := range []int{0, 1, 2, 5, 64} {
			comesBack(t, section(v, groups(n)...), more...)
		}
		comesBack(t, section(v, group(0, many(4097)...)), "", "x")
	}
	for e, may := range edges() {
		if may {
			comesBack(t, section(dict(), group(4096, e)), more...)
			comesBack(t, section(dict(), group(0), group(3, e, e), group(3, e)))
		}
	}
}

func TestPrintedIsParsedByChance(t *testing.T) { // P15.4
	c := chance{rand.New(rand.NewPCG(15, 4))}
	for range 5000 {
		comesBack(t, c.section(), c.pick(behind()...))
	}
}

// holds asks that what is told of a file's first bytes is told of all of it, at every length of them, and tells it.
func holds(t *testing.T, s string, at int) api.Errno {
	t.Helper()
	x, to, e := xref.Parse([]byte(s), at, true)
	told := false
	for k := at; k <= len(s); k++ {
		y, end, f := xref.Parse([]byte(s[:k]), at, false)
		if f == api.ErrMore && told {
			t.Errorf("%.300q, from %d on, needs more than %d bytes, though fewer told it", s, at, k)
		}
		if f != api.ErrMore && (!alike(y, x) || end != to || f != e) {
			t.Errorf("%.300q, from %d on, is told otherwise by %d bytes: %v and %v", s, at, k, f, e)
		}
		told = told || f != api.ErrMore
		few(t)
	}
	return e
}

// pieces are what sections are made of, and what they should not be made of.
func pieces() []string {
	return strings.Split("xref |xref\n|0 1 |0 1\n|0 0 |1 2\n|0 |7|-1 |4097 |4098 1 |2147483648 |"+one+"|0000000017 00000 n |0000000003 65535 f\n|0000000003 65535 f\r|2147483648 00000 n |0000000017 65536 n |0000000017 00000 |trailer|trailer |trailer<<>>|<<>>|<</A 1|/A|>>|[|]|1 0 R|(x)|(|)|x|%|%\n|\x00|\n| |/#0", "|")
}

func TestFirstBytesTellTheWhole(t *testing.T) { // P15.4
	for _, s := range []string{"xref\n0 2\n0000000000 65535 f \n0000000017 00000 n \n7 1\n2147483647 00003 n \ntrailer\n<</Size 8>>\nstartxref\n", "%c\nxref 0 1 0000000000 65535 f\r\ntrailer<<>>", "xref 0 1 0000000000 65535 g \n", "xref 0 1 0000000000%", "xref 0 1 ", "xref 0 1/trailer<</A 1>>                ", "xref trailer 5 0 R ", "xref trailer 5 0 n ", "xref trailer<</A 1/A 2>>", "xref 0 4098 ", "xref 4098 0 ", "xref -1 ) ", "xref 2147483648 ", "xreg ", "xref x ", "xref trailers ", "xref 0 1\n" + one + "5 trailer "} {
		for at := range len(s) + 1 {
			holds(t, s, at)
			agrees(t, s, at)
		}
	}
	var put func(s string, n int)
	put = func(s string, n int) {
		agrees(t, s, 0)
		holds(t, s, 0)
		for _, p := range pieces() {
			if n > 0 {
				put(s+p, n-1)
			}
		}
	}
	put("", 2)
	put("xref ", 2)
	put("xref 0 1 ", 2)
	put("xref 0 2\n"+one, 2)
	put("xref 7 1\n"+one, 2)
	put("xref 7 1\n"+one+"trailer", 2)
}

func TestFirstBytesByChance(t *testing.T) { // P15.2, P15.4: texts of pieces, and sections that are changed in a byte
	c := chance{rand.New(rand.NewPCG(15, 5))}
	seen := map[api.Errno]int{}
	for range 5000 {
		s := c.pick("", "xref ", "xref ", "xref 0 1 "+one, "xref 0 0 ", "xref 0 2 "+one, "xref 3 1 "+one+"trailer")
		for range c.IntN(9) {
			s += c.pick(pieces()...)
		}
		agrees(t, s, c.IntN(len(s)+1))
		agrees(t, s, 0)
		seen[holds(t, s, 0)]++
	}
	for range 1500 {
		b, _ := xref.Print(c.section())
		if len(b) > 400 {
			continue
		}
		s := string(b) + c.pick(behind()...)
		if at := c.IntN(len(b)); c.IntN(3) > 0 {
			s = s[:at] + c.pick("", "\x00", " ", "\n", "\r", "x", "0", "9", "/", "(", ")", ">", "<", "%", s[at:at+1]) + s[at+c.IntN(2):]
		}
		agrees(t, s, 0)
		seen[holds(t, s, 0)]++
	}
	for _, e := range []api.Errno{api.OK, api.ErrCut, api.ErrForm, api.ErrXref, api.ErrName} {
		if seen[e] < 100 {
			t.Error(seen)
		}
	}
}

func TestBytesByChance(t *testing.T) { // R1, P15.2: any bytes at all
	c := chance{rand.New(rand.NewPCG(15, 6))}
	for range 20000 {
		s := c.pick("", "xref", "xref 0 3 ", "xref trailer<<")
		for range c.IntN(60) {
			s += string([]byte{byte(c.Uint32())})
		}
		agrees(t, s, c.IntN(len(s)+1))
		agrees(t, s, 0)
	}
}

package xref_test

import (
	"fmt"
	"strings"
	"testing"

	"catchword/api"
	"catchword/xref"
)

// one is an entry's line, as it stands in a file.
const one = "0000000017 00000 n \n"

func TestParseOfGroups(t *testing.T) { // P15.2: none, one, several, of which some have nothing
	size := dict(name("Size"), whole(8))
	stands(t, "xref\ntrailer\n<</Size 8>>", section(size))
	stands(t, "xref\n0 0\ntrailer\n<</Size 8>>", section(size, group(0)))
	stands(t, "xref\n4097 0\ntrailer\n<</Size 8>>", section(size, group(4097)))
	stands(t, "xref\n0 1\n"+one+"trailer\n<</Size 8>>", section(size, group(0, used(17, 0))))
	stands(t, "xref\n4096 1\n"+one+"trailer\n<</Size 8>>", section(size, group(4096, used(17, 0))))
	stands(t, "xref\n0 2\n0000000000 65535 f \n"+one+"7 1\n2147483647 00003 n \ntrailer\n<</Size 8>>", section(size, group(0, free(0, 65535), used(17, 0)), group(7, used(most, 3))))
	stands(t, "xref\n7 1\n"+one+"3 0\n0 0\n7 1\n0000000018 00001 f \ntrailer\n<</Size 8>>", section(size, group(7, used(17, 0)), group(3), group(0), group(7, free(18, 1)))) // in any order, and twice
}

func TestParseOfTheGreatestSections(t *testing.T) { // P15.2: 64 groups, 4097 entries, and both
	for _, n := range []int{1, 2, 63, 64} {
		x := section(dict(), groups(n)...)
		s := strings.TrimSuffix(printed(x), "\n")
		reads(t, s, 0, true, x, len(s), api.OK)
		reads(t, s+"\n", 0, false, x, len(s), api.OK)
	}
	for _, n := range []int{1, 100, 4096, 4097} {
		x := section(dict(), group(4097-n, many(n)...))
		s := strings.TrimSuffix(printed(x), "\n")
		reads(t, s, 0, true, x, len(s), api.OK)
		reads(t, s, 0, false, x, len(s), api.OK)
		refuses(t, fmt.Sprintf("xref %d %d ", 4098-n, n), 0, true, api.ErrXref)
	}
	var l []api.Group
	for range xref.MostGroups {
		l = append(l, group(0, many(4097)...))
	}
	x := section(dict(), l...)
	s := printed(x)
	reads(t, s, 0, false, x, len(s)-1, api.OK)
	reads(t, "\n"+s, 1, true, x, len(s), api.OK)
}

func TestParseOfEntries(t *testing.T) { // P15.2: each edge of both numbers, n and f
	for _, at := range []int{0, 1, 9, 10, 17, 999999999, 1000000000, most - 1, most} {
		for _, gen := range []int{0, 1, 10, 9999, 65534, 65535} {
			for _, e := range []api.Entry{used(at, gen), free(at, gen)} {
				stands(t, "xref 5 1 "+line(e)+"trailer<<>>", section(dict(), group(5, e)))
			}
		}
	}
}

func TestParseOfLineEnds(t *testing.T) { // P15.2: a blank, 10 or 13, with any space behind, or none
	two := section(dict(), group(0, used(17, 0), free(3, 65535)))
	for _, end := range []string{" ", "\n", "\r"} {
		for _, more := range []string{"", " ", "\n", "\r", "\t", "\f", "\x00", "\r\n", "\x00\t\n\f\r "} {
			end := end + more
			stands(t, "xref 0 2\n0000000017 00000 n"+end+"0000000003 65535 f"+end+"trailer<<>>", two)
		}
	}
	for c := range 256 { // each byte behind the letter
		s := string([]byte{byte(c)})
		e := agrees(t, "xref 0 2 0000000017 00000 n"+s+"0000000003 65535 f"+s+"trailer<<>>", 0)
		if want := map[bool]api.Errno{true: api.OK, false: api.ErrXref}[strings.Contains(" \n\r", s)]; e != want {
			t.Errorf("%q: %v", s, e)
		}
	}
}

func TestSpaceBetweenTheParts(t *testing.T) { // P15.2: with space, and but ahead of entries with comments
	x := section(dict(name("A"), whole(1)), group(0), group(5, used(17, 0), used(17, 0)))
	for _, a := range []string{" ", "\n", "\r", "\r\n", "\x00\t\n\f\r ", "%\n", "%trailer\r", " %0 1\n", "\n%a\r%b\n\n"} {
		for _, b := range []string{" ", "\n", "\r", "\t", "\f", "\x00", "\r\n", "\x00\t\n\f\r "} {
			stands(t, a+"xref"+a+"0"+a+"0"+a+"5"+a+"2"+b+"0000000017 00000 n "+b+"0000000017 00000 n "+a+"trailer"+a+"<<"+a+"/A"+a+"1"+a+">>", x)
		}
	}
	for _, s := range []string{"%\n", "%0000000017 00000 n \n", " %\n", "\n%a\n"} { // among entries a comment is none
		fails(t, "xref 0 1"+s+one+one+"trailer<<>>", api.ErrXref)
		fails(t, "xref 0 2\n"+one+s+one+one+"trailer<<>>", api.ErrXref)
	}
	stands(t, "xref%\n0%\n0%\ntrailer%\n<<>>", section(dict(), group(0)))
	stands(t, "xref +0 -00 007 01\n"+one+"trailer<<>>", section(dict(), group(0), group(7, used(17, 0)))) // signs, and zeros ahead
}

func TestParseOfTrailers(t *testing.T) { // P15.2
	for s, v := range map[string]api.Value{"<<>>": dict(), "<</B 1/A 2>>": dict(name("A"), whole(2), name("B"), whole(1)), "<</#41 1 0 R>>": dict(name("A"), ref(1)), "<</A<</B[null]>>>>": dict(name("A"), dict(name("B"), array(null()))), "<</trailer(trailer)>>": dict(name("trailer"), text("trailer")), "<</A " + strings.Repeat("[", 63) + strings.Repeat("]", 63) + ">>": dict(name("A"), nested(array(), 62))} {
		stands(t, "xref trailer"+s, section(v))
		stands(t, "xref\n3 1\n"+one+"trailer\n"+s, section(v, group(3, used(17, 0))))
	}
	for _, v := range goodTrailers() {
		x := section(v, group(1, used(17, 0)))
		stands(t, strings.TrimSuffix(printed(x), "\n"), x)
	}
}

func TestParseAtEachPlace(t *testing.T) { // P15.2: at the beginning, in the middle and at the end, and where nothing stands
	s := "xref\n0 1\n" + one + "trailer\n<<>>\nxref\ntrailer<</A 1>>\nxref 0"
	first, second := section(dict(), group(0, used(17, 0))), section(dict(name("A"), whole(1)))
	reads(t, s, 0, true, first, strings.Index(s, ">>")+2, api.OK)
	reads(t, s, strings.Index(s, "\nxref"), false, second, strings.LastIndex(s, ">>")+2, api.OK)
	refuses(t, s, strings.LastIndex(s, "xref"), true, api.ErrCut)
	refuses(t, s, strings.LastIndex(s, "xref"), false, api.ErrMore)
	for at := range len(s) + 1 {
		agrees(t, s, at)
	}
	for _, s := range []string{"", " ", "xref trailer<<>>"} {
		for _, at := range []int{-1, -2, -1 << 63, len(s) + 1, len(s) + 2, 1<<63 - 1} {
			refuses(t, s, at, true, api.ErrArg)
			refuses(t, s, at, false, api.ErrArg)
		}
	}
	for _, s := range []string{"", " ", "\x00\t\n\f\r ", "%", "%xref", "%xref\n"} {
		cut(t, s)
	}
}

func TestEachCutPlace(t *testing.T) { // P15.2: with and without last, each place at which the bytes may end
	x := section(dict(name("A"), array(ref(1))), group(0, free(0, 65535), used(17, 0)), group(9), group(12, used(most, 3)))
	s := strings.TrimSuffix(printed(x), "\n")
	word := strings.Index(s, "trailer")
	for k := range len(s) {
		want := api.ErrCut
		switch {
		case k > 0 && k < len("xref"): // another word
			want = api.ErrForm
		case k > word && k < word+len("trailer"):
			want = api.ErrXref
		case k == len(s)-1: // one > of two
			want = api.ErrForm
		}
		refuses(t, s[:k], 0, true, want)
		refuses(t, s[:k], 0, false, api.ErrMore)
		agrees(t, s[:k], 0)
	}
	reads(t, s, 0, false, x, len(s), api.OK)
}

package chain_test

import (
	"fmt"
	"math"
	"strings"
	"testing"

	"catchword/api"
	"catchword/chain"
	"catchword/source"
	"catchword/xref"
)

// says is a section of no entries, with a trailer of what is said.
func says(s string) string { return "xref trailer<<" + s + ">>\n" }

// link is a section that leads to a place.
func link(to int) string { return says(fmt.Sprintf("/Prev %010d", to)) }

// linkLength is how many bytes a link has.
var linkLength = len(link(0))

func TestOneSection(t *testing.T) { // P17.2: without Prev it is all
	x := section(trailer(1, 3), group(1, used(17), free(3)))
	b, _ := xref.Print(x)
	for _, ahead := range []string{"", " ", "%xref\n", "\x00\t\n\f\r "} {
		for _, behind := range []string{"", " ", "x", link(0), ends(0)} {
			s := ahead + string(b) + behind
			for at := range len(ahead) + 1 {
				if strings.HasPrefix(ahead, "%") && at > 0 && at < len(ahead)-1 { // within a comment
					continue
				}
				leads(t, all(s), at, []xref.Section{x}, 0, api.OK)
			}
			leads(t, all("prev"+s), 4, []xref.Section{x}, 0, api.OK)
		}
	}
}

func TestSectionsThatLead(t *testing.T) { // P17.2: in the order in which they are read, wherever they stand
	s := "xref 0 0 trailer<</A 1/Prev 60>>"
	s += strings.Repeat(" ", 60-len(s)) + "xref 1 1 0000000005 00000 n trailer<</A 2/Prev 40>>"
	s = s[:40] + "xref trailer<</A 3>>" + s[60:]
	l := []xref.Section{
		section(dict(name("A"), whole(1), name("Prev"), whole(60)), group(0)),
		section(dict(name("A"), whole(2), name("Prev"), whole(40)), group(1, used(5))),
		section(dict(name("A"), whole(3)))}
	leads(t, all(s), 0, l, 0, api.OK)
	leads(t, all(s), 60, l[1:], 0, api.OK)
	leads(t, all(s), 40, l[2:], 0, api.OK)
}

func TestPrevWithin(t *testing.T) { // P17.2: the trailer's own alone
	for _, s := range []string{"/A/Prev", "/A<</Prev 0>>", "/A[/Prev 0]", "/A(/Prev 0)", "/prev 0", "/Pre 0", "/Prevx 0", "/A 0"} {
		l, want, e := chain.Sections(source.Whole([]byte(says(s))), 0)
		if len(l) != 1 || want != 0 || e != api.OK {
			t.Error(s, l, want, e)
		}
	}
	leads(t, all(says("/#50rev 0")), 0, nil, 0, api.ErrLoop) // a name's form may be another one
}

func TestWrongPlaces(t *testing.T) { // P17.2: not from 0 to Total - 1
	for _, s := range []string{"", "x", says(""), says("") + says("")} {
		for _, at := range append([]int{len(s), len(s) + 1, len(s) + 2}, farOff...) {
			leads(t, all(s), at, nil, 0, api.ErrXref)
			leads(t, none(s), at, nil, 0, api.ErrXref) // nothing is wanted there
			if at < -most || at > most {
				continue
			}
			for _, s := range []string{says(fmt.Sprintf("/Prev %d", at)), says("") + says(fmt.Sprintf("/Prev %d", at))} {
				if at < 0 || at >= len(s) {
					leads(t, all(s), strings.LastIndex(s, "xref"), nil, 0, api.ErrXref)
				}
			}
		}
	}
	s := says("")
	leads(t, all(s), len(s)-1, nil, 0, api.ErrXref) // nothing but a byte 10
	for n := 30; n < 40; n++ {                      // Prev at the last byte, and behind it
		s := says(fmt.Sprintf("/Prev %d", n-1))
		s += strings.Repeat(" ", n-len(s))
		leads(t, all(s).but(n-1, n), 0, nil, n-1, api.ErrMore)
		leads(t, all(s[:n-1]), 0, nil, 0, api.ErrXref)
	}
}

func TestWrongSections(t *testing.T) { // P17.2: ErrXref instead of each other error of xref.Parse
	seen := map[api.Errno]int{}
	for _, s := range []string{"x", "xreg trailer<<>>", "xrefs trailer<<>>", "5 0 obj", "trailer<<>>", "startxref 0", ")", "(", "(xref)", "<", "<x", "/#", "%", " ", "1", "xref", "xref ", "xref x", "xref 0", "xref 0 ", "xref 0 1", "xref 0 1 0000000000 00000 ", "xref 0 1 0000000000 00000 x \n", "xref 0 1 2147483648 00000 n \n", "xref -1 0 ", "xref 4097 1 ", "xref 2147483648 ", "xref 0 0 )", "xref trailer", "xref trailer 5", "xref trailer[]", "xref trailer null ", "xref trailer/A", "xref trailer 5 0 R", "xref trailer 0 0 R", "xref trailer<<", "xref trailer<</A", "xref trailer<</A 1", "xref trailer<</A 1>", "xref trailer<</A(", "xref trailer<</A>>", "xref trailer<<1 2>>", "xref trailer<</A 1/A 1>>", "xref trailer<</Prev 0/Prev 0>>", "xref trailer<</A 2147483648>>", "xref trailer<</A 1 1 R>>", "xref trailer<</#0 1>>", "xref trailer<</" + strings.Repeat("n", 128) + " 1>>", "xref trailer<</A" + strings.Repeat("[", 65), "xref " + strings.Repeat("0 0 ", 65) + "trailer<<>>"} {
		_, _, e := xref.Parse([]byte(s), 0, true)
		seen[e]++
		leads(t, all(s), 0, nil, 0, api.ErrXref)
		leads(t, all(link(linkLength)+s), 0, nil, 0, api.ErrXref)
		leads(t, all(link(linkLength)+link(2*linkLength)+s), 0, nil, 0, api.ErrXref)
		if e == api.ErrCut {
			leads(t, all(s+"x").but(len(s), len(s)+1), 0, nil, len(s), api.ErrMore)
		} else {
			leads(t, all(s+" 0 0 x").but(len(s)+5, len(s)+6), 0, nil, 0, api.ErrXref)
		}
	}
	for _, e := range []api.Errno{api.ErrRange, api.ErrCut, api.ErrForm, api.ErrDeep, api.ErrKey, api.ErrName, api.ErrXref, api.ErrRef} {
		if seen[e] == 0 {
			t.Errorf("no text is %v", e)
		}
	}
	if seen[api.OK] != 0 {
		t.Error(seen)
	}
}

func TestWrongPrev(t *testing.T) { // P17.2: it is there, and no Int
	for _, s := range []string{"null", "true", "false", "0.0", "0.", ".0", "5.5", "(0)", "<30>", "/A", "/0", "[]", "[0]", "<<>>", "<</Prev 0>>", "1 0 R"} {
		leads(t, all(says("/Prev "+s)), 0, nil, 0, api.ErrXref)
		leads(t, all(link(linkLength)+says("/A 1/Prev "+s+"/Z 1")), 0, nil, 0, api.ErrXref)
	}
	good := " " + says("/A 1") // at 0, and at 1
	for s, is := range map[string]bool{"0": true, "1": true, "+1": true, "null": false, "false": false, "true": false, "0.0": false, "0.000001": false, "1.": false, "(1)": false, "/1": false, "[1]": false, "1 0 R": false} {
		l, want, e := all(good + says("/Prev "+s)).sections(len(good))
		leads(t, all(good+says("/Prev "+s)), len(good), l, want, e)
		if is != (len(l) == 2) || is != (e == api.OK) {
			t.Error(s, brief(l), e)
		}
	}
}

func TestLoops(t *testing.T) { // P17.2: a section that was read at that place already
	for n := 1; n <= 35; n++ {
		for back := range min(n, 33) {
			var s strings.Builder
			for i := 1; i < n; i++ {
				s.WriteString(link(i * linkLength))
			}
			s.WriteString(link(back * linkLength))
			for at := range n {
				leads(t, all(s.String()), at*linkLength, nil, 0, api.ErrLoop)
			}
		}
	}
}

func TestTheSameSectionAtAnotherPlace(t *testing.T) { // P17.2: space ahead makes it another one
	s := "    xref trailer<</Prev 3>>"
	for at := range 3 {
		leads(t, all(s), at, nil, 0, api.ErrLoop)
	}
	s = " %\n xref trailer<</A 1>>\n"
	x := section(dict(name("A"), whole(1)))
	for at := range 4 {
		leads(t, all(s+says(fmt.Sprintf("/Prev %d", at))), len(s), []xref.Section{section(dict(name("Prev"), whole(at))), x}, 0, api.OK)
	}
}

// chainOf is so many sections, each of which leads to the next one, the last one nowhere; and they.
func chainOf(n int) (string, []xref.Section) {
	var s strings.Builder
	var l []xref.Section
	for i := 1; i < n; i++ {
		s.WriteString(link(i * linkLength))
		l = append(l, section(dict(name("Prev"), whole(i*linkLength))))
	}
	s.WriteString(says("/A 1"))
	return s.String(), append(l, section(dict(name("A"), whole(1))))
}

func TestMostSections(t *testing.T) { // P17.2: 32, and not one more
	for n := 1; n <= 40; n++ {
		s, l := chainOf(n)
		for at := range n {
			if n-at <= 32 {
				leads(t, all(s), at*linkLength, l[at:], 0, api.OK)
			} else {
				leads(t, all(s), at*linkLength, nil, 0, api.ErrLoop)
			}
		}
	}
}

func TestErrorsInTheirOrder(t *testing.T) { // P17.2: of the place, of those read already, of what stands there, of Prev
	s, _ := chainOf(33)
	at := 32 * linkLength
	leads(t, all(s).but(at, len(s)), 0, nil, 0, api.ErrLoop) // the 33rd one is not wanted
	leads(t, all(s[:at]+strings.Repeat(")", 20)), 0, nil, 0, api.ErrLoop)
	leads(t, all(s[:at]), 0, nil, 0, api.ErrXref) // its place is past the end
	leads(t, all(s[:at+1]), 0, nil, 0, api.ErrLoop)
	for _, to := range []string{"-1", "2147483647", "null", "2147483648"} { // the 32nd one's
		to := says("/Prev " + to)
		leads(t, all(s[:at-linkLength]+to), 0, nil, 0, api.ErrXref)
	}
	for i := range 32 { // one that is not known, ahead of one that is wrong, and the other way around
		for k := i + 1; k < 32; k++ {
			more := all(s).but(i*linkLength+3, i*linkLength+4)
			wrong := s[:k*linkLength] + "y" + s[k*linkLength+1:]
			leads(t, part{wrong, more.unknown}, 0, nil, i*linkLength+3, api.ErrMore)
			more = all(s).but(k*linkLength+3, k*linkLength+4)
			wrong = s[:i*linkLength] + "y" + s[i*linkLength+1:]
			leads(t, part{wrong, more.unknown}, 0, nil, 0, api.ErrXref)
			wrong = s[:i*linkLength] + link(0) + s[(i+1)*linkLength:]
			leads(t, part{wrong, more.unknown}, 0, nil, 0, api.ErrLoop)
		}
	}
	leads(t, all("xref trailer<</Prev/A/Prev 0>>"), 0, nil, 0, api.ErrXref)
	leads(t, all("xref trailer<</Prev/A>>").but(22, 23), 0, nil, 22, api.ErrMore)
	leads(t, all("xref trailer<</Prev/A>>)"), 0, nil, 0, api.ErrXref)
}

func TestSectionsOfUnknownBytes(t *testing.T) { // P17.2: the first place that is not known of those from the section's on
	s, l := chainOf(3)
	s += "   "
	p := all(s)
	end := len(strings.TrimRight(s, " \n"))
	for at := range s {
		holed := p.but(at, at+1)
		k := min(at/linkLength, 2)
		for from := range 3 {
			switch {
			case at >= from*linkLength && at < end && at%linkLength < linkLength-1: // not behind >>
				leads(t, holed, from*linkLength, nil, at, api.ErrMore)
				leads(t, p.but(at, len(s)), from*linkLength, nil, at, api.ErrMore)
				leads(t, none(s).and(from*linkLength, at), from*linkLength, nil, at, api.ErrMore)
				leads(t, holed.but(0, from*linkLength), from*linkLength, nil, at, api.ErrMore)
			default:
				leads(t, holed, from*linkLength, l[from:], 0, api.OK)
			}
			if k >= from {
				leads(t, none(s).and(from*linkLength, k*linkLength), from*linkLength, nil, k*linkLength, api.ErrMore)
			}
			leads(t, none(s).and(from*linkLength, end), from*linkLength, l[from:], 0, api.OK)
		}
	}
	leads(t, p.but(0, linkLength).and(0, linkLength-1).but(linkLength, 2*linkLength), 0, nil, linkLength, api.ErrMore)
	leads(t, none("x"), 0, nil, 0, api.ErrMore)
}

// padded is a section of so many bytes, with a text that fills it, or space.
func padded(n int, prev int, space bool) string {
	s, end := "xref 0 1 0000000005 00000 n trailer<</A(", fmt.Sprintf(")/Prev %d/Root 1 0 R/Size 2>>", prev)
	if space {
		s, end = "xref 0 1", fmt.Sprintf("0000000005 00000 n trailer<</Prev %d/Root 1 0 R/Size 2>>", prev)
	}
	return s + strings.Repeat(" ", n-len(s)-len(end)) + end
}

func TestLongSections(t *testing.T) { // P17.2: of whatever length, with whatever behind
	for _, n := range []int{1023, 1024, 1025, 2047, 2048, 2049, 4095, 4096, 4097, 65535, 65536, 65537, 300000} {
		for _, space := range []bool{true, false} {
			for _, behind := range []string{"", " ", strings.Repeat("z", n)} {
				s := padded(n, n+len(behind)+9, space) + behind
				alone, both := all(s), all(s+strings.Repeat(" ", 9)+says("/A 1"))
				x, want, e := both.sections(0)
				leads(t, both, 0, x, want, e)
				if len(x) != 2 {
					t.Errorf("%d, %v, %.9q: %v", n, space, behind, e)
				}
				leads(t, alone, 0, nil, 0, api.ErrXref) // its Prev is past the end
				for _, cut := range []int{1, 1022, 1023, 1024, 1025, 2046, 2047, 2048, 2049, n - 2, n - 1} {
					if cut < n {
						leads(t, both.but(cut, cut+1), 0, nil, cut, api.ErrMore)
						leads(t, both.but(cut, len(both.s)), 0, nil, cut, api.ErrMore)
						leads(t, alone.but(cut, cut+1), 0, nil, cut, api.ErrMore)
					}
				}
			}
		}
	}
}

func TestTheGreatestSection(t *testing.T) { // P17.2: 64 groups of all numbers
	var l []api.Group
	for i := range xref.MostGroups {
		g := group(0)
		for n := range api.MaxObjects + 1 {
			g.Entries = append(g.Entries, used(i+n))
		}
		l = append(l, g)
	}
	s, read, places := printed(t, "%PDF-1.4\n", section(trailer(1, 4097), l...), section(trailer(2, 4097), group(7, used(9))))
	leads(t, all(s), places[0], read, 0, api.OK)
	leads(t, all(s), places[1], read[1:], 0, api.OK)
	x, e := tableOf(read)
	if len(x.Places) != 4096 || e != api.OK {
		t.Error(e)
	}
	loads(t, all(s), x, 0, api.OK)
	at := strings.LastIndex(s, "xref\n7")
	loads(t, all(s).but(at-3, at-2), chain.Table{}, at-3, api.ErrMore)
}

func TestSectionsOfTheGreatestFile(t *testing.T) { // P17.2: places far from one another
	f, _ := source.New(most)
	l := []xref.Section{section(dict(name("Prev"), whole(0))), section(dict(name("Prev"), whole(1<<30))), section(dict(name("A"), whole(1)))}
	for i, at := range []int{most - 50, 0, 1 << 30} {
		if x, want, e := chain.Sections(f, most-50); x != nil || want != at || e != api.ErrMore {
			t.Error(i, brief(x), want, e)
		}
		b, _ := xref.Print(l[i])
		f.Put(at, b[:len(b)-1])
	}
	if x, want, e := chain.Sections(f, most-50); !sameSections(x, l) || want != 0 || e != api.OK {
		t.Error(brief(x), want, e)
	}
	for _, at := range []int{most, most + 1, math.MaxInt, -1} {
		if x, want, e := chain.Sections(f, at); x != nil || want != 0 || e != api.ErrXref {
			t.Error(at, brief(x), want, e)
		}
	}
}

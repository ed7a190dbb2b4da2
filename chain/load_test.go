package chain_test

import (
	"fmt"
	"strings"
	"testing"

	"catchword/api"
	"catchword/chain"
	"catchword/source"
	"catchword/xref"
)

func TestLoad(t *testing.T) { // P17.4
	s := "%PDF-1.4\n" + "xref\n0 3\n0000000000 65535 f \n0000000011 00000 n \n0000000022 00000 n \ntrailer\n<</Root 2 0 R/Size 3>>\n"
	young := len(s)
	s += "xref\n2 2\n0000000033 00000 n \n0000000044 00000 f \ntrailer\n<</Prev 9/Root 1 0 R/Size 5>>\n"
	loads(t, all(s+ends(9)), table(2, 11, 22), 0, api.OK)
	loads(t, all(s+ends(young)), table(1, 11, 33, -1, -1), 0, api.OK)
	loads(t, all(s+ends(young+1)), table(0), 0, api.ErrXref)
	loads(t, all(s+ends(len(s))), table(0), 0, api.ErrXref)
	loads(t, all(s+ends(len(s)+17)), table(0), 0, api.ErrXref)
	loads(t, all(s+ends(len(s)+18)), table(0), 0, api.ErrXref)
	loads(t, all(s+ends(len(s)+20)), table(0), 0, api.ErrStart)
	loads(t, all(s), table(0), 0, api.ErrStart)
}

func TestLoadErrors(t *testing.T) { // P17.4: the first one
	for s, e := range map[string]api.Errno{
		"": api.ErrStart, "startxref": api.ErrStart, says("/Root 1 0 R/Size 1"): api.ErrStart,
		says("/Root 1 0 R/Size 1") + "startxref 0": api.OK,
		says("/Root 1 0 R/Size 0") + "startxref 0": api.ErrXref, says("/Root 1 0 R/Size 4098") + "startxref 0": api.ErrXref, says("/Root 1 0 R") + "startxref 0": api.ErrXref, says("/Root 1/Size 0") + "startxref 0": api.ErrXref, says("/Size null") + "startxref 0": api.ErrXref,
		says("/Root 1/Size 1") + "startxref 0": api.ErrRoot, says("/Size 1") + "startxref 0": api.ErrRoot, says("/Root[1 0 R]/Size 1") + "startxref 0": api.ErrRoot,
		says("/Prev 0/Root 1 0 R/Size 1") + "startxref 0": api.ErrLoop, says("/Prev 0") + "startxref 0": api.ErrLoop, says("/Prev 0/Size 1") + "startxref 0": api.ErrLoop,
		says("/Prev 4000/Size 1") + "startxref 0": api.ErrXref, says("/Prev 3/Size 1") + "startxref 0": api.ErrXref, says("/Prev/A/Size 1") + "startxref 0": api.ErrXref,
		says("/Root 1 0 R/Size 1") + "startxref -1": api.ErrStart, says("/Root 1 0 R/Size 1") + "startxref 1": api.ErrXref, "xref startxref 0": api.ErrXref, ") startxref 0": api.ErrXref,
	} {
		x, _, _ := all(s).load()
		loads(t, all(s), x, 0, e)
	}
}

func TestLoadOfUnknownBytes(t *testing.T) { // P17.4: each byte that is not known, by itself, and with those behind or ahead
	ordinary, _, _ := printed(t, "%PDF-1.4\n", section(trailer(1, 3), group(0, free(0), used(9), used(30))), section(trailer(1, 4), group(2, used(50), used(70))))
	for _, s := range []string{ordinary, strings.Replace(ordinary, "/Size 4", "/Size x", 1), strings.Replace(ordinary, "/Size 3", "/Size 3 1", 1), strings.Replace(ordinary, "/Size 4", "/Size 0", 1), strings.Replace(ordinary, "/Prev 9", "/Prev 0", 1), strings.Replace(ordinary, "startxref\n", "startxref\n1", 1)} {
		whole := agrees(t, all(s))
		for at := range len(s) + 1 {
			for _, p := range []part{all(s).but(at, min(at+1, len(s))), all(s).but(at, len(s)), all(s).but(0, at), none(s).and(max(0, len(s)-64), len(s)).and(0, at), none(s).and(min(at, len(s)-64), len(s))} {
				if e := agrees(t, p, 0, 9); e != whole && e != api.ErrMore {
					t.Errorf("%v, want %v", e, whole)
				}
			}
		}
	}
}

func TestLoadStepByStep(t *testing.T) { // P17.4: what is wanted first is the end, then one section behind the other
	s := strings.Repeat("x", 200) + "xref 1 1 0000000007 00000 n trailer<</A 1>>" + strings.Repeat("y", 200)
	second := len(s)
	s += fmt.Sprintf("xref trailer<</Prev 200/Root 1 0 R/Size 2>>%200s", "") + ends(second)
	p := none(s)
	for _, step := range []struct{ want, to int }{{len(s) - 64, len(s) - 1}, {len(s) - 1, len(s)}, {second, second + 4}, {second + 4, second + 43}, {200, 242}, {242, 243}} {
		loads(t, p, table(0), step.want, api.ErrMore)
		p = p.and(step.want, step.to)
	}
	loads(t, p, table(1, 7), 0, api.OK)
}

func TestNoSource(t *testing.T) { // P17.4 by rule R1: calls on sources that no call made end
	failed, _ := source.New(-1)
	for _, s := range []*source.Source{nil, {}, new(source.Source), failed} {
		for _, at := range append([]int{0, 1}, farOff...) {
			chain.Sections(s, at)
		}
		chain.Start(s)
		chain.Load(s)
	}
}

func TestSectionsOfAHandMadeFile(t *testing.T) { // P17.4: lines of other forms, and what else stands in a file
	s := "%PDF-1.7\r%\xe2\xe3\r\n1 0 obj<</Type/Catalog>>endobj\r\nxref\r\n0 2\r\n0000000000 65535 f\r\n0000000015 00000 n\r\n3 1\r\n0000000099 00000 n\r\ntrailer\r\n<<\r\n/Size 4\r\n/Root 1 0 R\r\n/ID[<00><01>]\r\n>>\r\nstartxref\r\n46\r\n%%EOF\r\n"
	at := strings.Index(s, "\nxref") + 1
	s = strings.Replace(s, "\n46\r", fmt.Sprintf("\n%d\r", at), 1)
	loads(t, all(s), table(1, 15, -1, 99), 0, api.OK)
	loads(t, all(strings.Replace(s, "startxref", "(startxref 0) startxref", 1)), table(1, 15, -1, 99), 0, api.OK)
	l := []xref.Section{section(dict(name("ID"), array(text("\x00"), text("\x01")), name("Root"), ref(1), name("Size"), whole(4)), group(0, api.Entry{Gen: 65535}, used(15)), group(3, used(99)))}
	leads(t, all(s), at, l, 0, api.OK)
}

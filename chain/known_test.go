package chain_test

import (
	"strings"
	"testing"

	"catchword/api"
	"catchword/chain"
	"catchword/source"
	"catchword/value"
	"catchword/xref"
)

func TestPrintedOnesAreLoaded(t *testing.T) { // P17.5: one behind the other, each naming the one ahead
	c := newChance(2)
	for n := 1; n <= 32; n++ {
		for _, ahead := range []string{"", "%PDF-1.4\n", strings.Repeat("startxref 0\n", 20)} {
			var l []xref.Section
			for range n {
				x := c.section()
				x.Trailer = value.Put(value.Put(x.Trailer, "Size", whole(12)), "Root", ref(c.IntN(9)+1))
				l = append(l, x)
			}
			s, read, places := printed(t, ahead, l...)
			for i, at := range places {
				leads(t, all(s), at, read[i:], 0, api.OK)
				x, e := tableOf(read[i:])
				if len(x.Places) != 11 || e != api.OK {
					t.Fatal(brief(x), e)
				}
				loads(t, all(s+ends(at)), x, 0, api.OK)
			}
		}
	}
}

func TestOneSectionTooMany(t *testing.T) { // P17.5 by MaxChain: 33 are not loaded, the first 32 of them are
	var l []xref.Section
	for n := range 33 {
		l = append(l, section(trailer(1, 2), group(1, used(n))))
	}
	s, _, places := printed(t, "", l...)
	loads(t, all(s), table(0), 0, api.ErrLoop)
	loads(t, all(s+ends(places[1])), table(1, 31), 0, api.OK)
}

func TestByChance(t *testing.T) { // P17.1 to P17.5: files, changed and not, of which some bytes are known
	c := newChance(3)
	seen := map[api.Errno]int{}
	for range 4000 {
		s, places := c.file(t)
		of := agrees(t, all(s), append(places, c.IntN(len(s)+2)-1)...)
		seen[of]++
		for range 6 {
			e := agrees(t, c.known(s), append(places, c.IntN(len(s)+2)-1)...)
			seen[e]++
			if e != api.ErrMore && e != of {
				t.Fatalf("%q: %v, of all %v", s, e, of)
			}
		}
	}
	for _, e := range []api.Errno{api.OK, api.ErrMore, api.ErrXref, api.ErrStart, api.ErrRoot} {
		if seen[e] < 100 {
			t.Error(seen)
		}
	}
}

func TestAnyBytes(t *testing.T) { // R1, P17.4: pieces of files, in any order
	c := newChance(4)
	pieces := strings.Split("xref|xref\n0 1\n|0000000017 00000 n \n|trailer|trailer<<|/Size 2|/Root 1 0 R|/Prev 0|/Prev 5|/Prev |>>|<<|0|7|1 |startxref|startxref 0|startxref\n4\n|startxref |%|\n| |(|)|[|x|\x00|\xff|-", "|")
	for range 60000 {
		var s strings.Builder
		s.WriteString(c.pick("", "xref trailer<<", "xref 1 1 0000000017 00000 n trailer<</Root 1 0 R"))
		for range c.IntN(12) {
			s.WriteString(c.pick(pieces...))
		}
		s.WriteString(c.pick("", "startxref 0", "/Size 2>>startxref 0"))
		agrees(t, c.known(s.String()), c.IntN(s.Len()+1))
	}
}

// answers are what is told of a source, Sections' from a place on.
type answers struct {
	start, at, loadAt int
	sections          []xref.Section
	table             chain.Table
	errors            [3]api.Errno
	wants             [3]int
}

func told(s *source.Source, at int) answers {
	var a answers
	a.start, a.wants[0], a.errors[0] = chain.Start(s)
	a.sections, a.wants[1], a.errors[1] = chain.Sections(s, at)
	a.table, a.wants[2], a.errors[2] = chain.Load(s)
	return a
}

// holdsOf asks that what is told, if it is not ErrMore, is what another one says, and that else a byte is wanted that is not known.
func (a answers) holdsOf(t *testing.T, s *source.Source, of answers) {
	t.Helper()
	same := [3]bool{a.start == of.start, sameSections(a.sections, of.sections), sameTable(a.table, of.table)}
	for i, e := range a.errors {
		if e == api.ErrMore {
			if at := a.wants[i]; at < 0 || at >= s.Total() || s.First(at) != at {
				t.Errorf("wanted is %d, which is known, or none", at)
			}
		} else if e != of.errors[i] || a.wants[i] != 0 || !same[i] {
			t.Errorf("%d is told otherwise: %v, of all %v", i, e, of.errors[i])
		}
	}
	few(t)
}

func TestWhatIsToldStays(t *testing.T) { // P17.5: whatever more is put
	c := newChance(5)
	for range 2500 {
		file, places := c.file(t)
		at := places[c.IntN(len(places))]
		whole := told(source.Whole([]byte(file)), at)
		s, _ := source.New(len(file))
		var ahead answers
		for i := 0; s.First(0) < len(file); i++ {
			a := told(s, at)
			a.holdsOf(t, s, whole)
			for k, e := range a.errors {
				if i > 0 && e == api.ErrMore && ahead.errors[k] != api.ErrMore {
					t.Fatalf("%d needs more, though it was told of less", k)
				}
			}
			ahead = a
			from := c.IntN(len(file))
			if i > 20 {
				from = s.First(0)
			}
			to := min(len(file), from+1+c.IntN(1+len(file)/4))
			s.Put(from, []byte(file[from:to]))
		}
		told(s, at).holdsOf(t, s, whole)
	}
}

func TestAskedForOneByOne(t *testing.T) { // P17.5: who puts what is wanted is told in the end, and needs no more than that
	c := newChance(6)
	for range 600 {
		file, _ := c.file(t)
		ordinary, step, e := all(file).load()
		s, _ := source.New(len(file))
		for {
			x, want, f := chain.Load(s)
			if f != api.ErrMore {
				if !sameTable(x, ordinary) || want != 0 || f != e {
					t.Fatalf("%q: %v, want %v", file, f, e)
				}
				break
			}
			if s.First(want) != want || want >= len(file) {
				t.Fatalf("%d is known", want)
			}
			s.Put(want, []byte(file[want:want+1]))
			if step++; step > len(file) {
				t.Fatal("more steps than bytes")
			}
		}
	}
}

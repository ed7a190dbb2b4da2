package source_test

import (
	"math"
	"slices"
	"strings"
	"testing"

	"catchword/api"
	"catchword/source"
)

func TestNoSource(t *testing.T) { // P16.4: of nil Sources, and of such as no call made
	failed, _ := source.New(-1)
	for _, s := range []*source.Source{nil, {}, new(source.Source), failed} {
		for _, at := range append([]int{0, 1}, farOff...) {
			for _, b := range []string{"", "a"} {
				puts(t, s, at, b, api.ErrNil)
			}
			for _, n := range []int{0, 1, -1, math.MaxInt} {
				reads(t, s, at, n, "", false)
			}
			firsts(t, s, at, 0)
		}
		knows(t, s)
		if s.Total() != 0 {
			t.Errorf("Total of none: %d", s.Total())
		}
	}
}

func TestSourceOfNoBytesIsOne(t *testing.T) { // P16.4: it was made, though it has nothing
	for _, s := range []*source.Source{made(t, 0), source.Whole(nil)} {
		puts(t, s, 0, "", api.OK)
		puts(t, s, 0, "a", api.ErrRange)
		reads(t, s, 0, 0, "", true)
		reads(t, s, 1, 0, "", false)
	}
}

// roomy are a text's bytes with spare room behind them.
func roomy(s string) []byte {
	b := append(make([]byte, 0, len(s)+9), s...)
	return append(b, "untouched"...)[:len(s)]
}

// untouched tells whether roomy's bytes are still what they were.
func untouched(b []byte, s string) bool {
	return string(b) == s && string(b[:len(s)+9]) == s+"untouched"
}

func TestBytesAreNotKept(t *testing.T) { // P16.1 and P16.2 by rule R3: what is handed in may be changed then
	long := strings.Repeat("0123456789", 500)
	b := roomy(long)
	w := source.Whole(b)
	s := made(t, 6000)
	puts(t, s, 0, "", s.Put(500, b))
	if !untouched(b, long) {
		t.Error("what was handed in was changed")
	}
	clear(b[:cap(b)])
	reads(t, w, 0, 5000, long, true)
	reads(t, s, 500, 5000, long, false)
}

func TestAnswersAreNobodyElses(t *testing.T) { // P16.3 by rule R3: what is answered may be changed, its spare room too
	long := strings.Repeat("0123456789", 500)
	s := source.Whole([]byte(long))
	half := made(t, 5000)
	puts(t, half, 1000, long[1000:2000], api.OK)
	puts(t, half, 3000, long[3000:3001], api.OK)
	for _, n := range []int{0, 1, 1000, 1024, 3000, 5000} {
		b, _ := s.Read(1024, n)
		clear(b[:cap(b)])
		b, _ = half.Read(1000, n)
		clear(b[:cap(b)])
		l := half.Known()
		clear(l[:cap(l)])
	}
	reads(t, s, 0, 5000, long, true)
	reads(t, half, 1000, 5000, long[1000:2000], false)
	knows(t, half, 1000, 2000, 3000, 3001)
	puts(t, half, 2000, long[2000:3000], api.OK)
	reads(t, half, 1000, 5000, long[1000:3001], false)
}

func TestReadStaysAsItWas(t *testing.T) { // P16.3 by rule R3: what was answered does not change when more is put
	s := made(t, 9)
	puts(t, s, 0, "abc", api.OK)
	b, _ := s.Read(0, 9)
	l := s.Known()
	puts(t, s, 3, "defghi", api.OK)
	if string(b) != "abc" || !slices.Equal(l, []api.Span{{To: 3}}) {
		t.Errorf("%q, %v", b, l)
	}
}

func TestSourcesAreApart(t *testing.T) { // P16.2 by rule R4: two of the same length, and two of the same bytes
	a, b := made(t, 6), made(t, 6)
	puts(t, a, 0, "abc", api.OK)
	puts(t, b, 2, "xyz", api.OK)
	reads(t, a, 0, 9, "abc", false)
	reads(t, b, 2, 9, "xyz", false)
	knows(t, a, 0, 3)
	knows(t, b, 2, 5)
	long := []byte(strings.Repeat("k", 3000))
	v, w := source.Whole(long), source.Whole(long)
	puts(t, v, 0, strings.Repeat("z", 3000), api.OK)
	reads(t, w, 0, 3000, string(long), true)
}

func TestAssignedSourcesAreApart(t *testing.T) { // P16.2 by rule R4: one that was assigned to another one, whichever is put to first
	for _, first := range []int{0, 1} {
		one := made(t, 3000)
		puts(t, one, 1000, "known", api.OK)
		other := *one
		both := []*source.Source{one, &other}
		puts(t, both[first], 1005, "AAA", api.OK)
		puts(t, both[1-first], 1003, strings.Repeat("b", 100), api.OK)
		puts(t, both[first], 1008, "BBB", api.OK)
		puts(t, both[1-first], 2000, "ccc", api.OK)
		reads(t, both[first], 1000, 20, "knownAAABBB", false)
		reads(t, both[1-first], 1000, 11, "knownbbbbbb", false)
		knows(t, both[first], 1000, 1011)
		knows(t, both[1-first], 1000, 1103, 2000, 2003)
		third := *both[1-first]
		puts(t, &third, 2003, "ddd", api.OK)
		puts(t, both[1-first], 2003, "eee", api.OK)
		reads(t, &third, 2000, 9, "cccddd", false)
		reads(t, both[1-first], 2000, 9, "ccceee", false)
	}
}

func TestAskingChangesNothing(t *testing.T) { // P16.3 by rule R4: the same twice, whatever was asked between
	c := newChance(7)
	s := made(t, 1500)
	for range 9 {
		x := c.span(1500)
		puts(t, s, x.From, string(c.bytes(x.To-x.From)), api.OK)
	}
	before := told(s)
	for _, at := range append(upto(-2, 1502), farOff...) {
		s.Read(at, 3)
		s.Read(at, -1)
		s.First(at)
	}
	if !told(s).sameAs(before) {
		t.Error("another answer")
	}
}

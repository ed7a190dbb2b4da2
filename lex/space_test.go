package lex_test

import (
	"math"
	"math/rand/v2"
	"slices"
	"strings"
	"testing"

	"catchword/lex"
)

func TestSpaceAndDelimOfEveryByte(t *testing.T) { // P10.1
	space, delim := []int{0, 9, 10, 12, 13, 32}, []int{'(', ')', '<', '>', '[', ']', '{', '}', '/', '%'}
	for c := range 256 {
		if got, want := lex.Space(byte(c)), slices.Contains(space, c); got != want {
			t.Errorf("Space(%d): %v", c, got)
		}
		if got, want := lex.Delim(byte(c)), slices.Contains(delim, c); got != want {
			t.Errorf("Delim(%d): %v", c, got)
		}
	}
}

// skips asks for Skip's answer.
func skips(t *testing.T, s string, at, want int) {
	t.Helper()
	if got := lex.Skip([]byte(s), at); got != want {
		t.Errorf("Skip(%.60q, %d): %d, want %d", s, at, got, want)
	}
}

func TestSkip(t *testing.T) { // P10.1
	for s, want := range map[string]int{
		"": 0, "a": 0, " a": 1, "   ": 3, "\x00\t\n\f\r a": 6, "\x00\t\n\f\r ": 6, "\va": 0, "\x08a": 0, "\xa0a": 0, "\x85a": 0,
		"%": 1, "%a": 2, "%a b (c": 7, "%a\nb": 3, "%a\rb": 3, "%a\r\nb": 4, "%a\n": 3, "%a\r": 3, "%\n\n": 3, "%\nb": 2, "%\rb": 2,
		"%a\fb": 4, "%a\x00b\tc": 6, "%%a\nb": 4, "%a%b\nc": 5, "%a\n%b\rc": 6, " %a\n %b\n c": 9, "%a\n%b": 5, "  %": 3, "%a\\\nb": 4, "%(\n)": 3, "(%a\n)": 0, "/%": 0,
		" [": 1, " ]": 1, " <": 1, " >": 1, " {": 1, " }": 1, " /": 1, " (": 1, " )": 1, " 1": 1, " \xff": 1,
	} {
		skips(t, s, 0, want)
	}
}

func TestSkipFromPlaces(t *testing.T) { // P10.1: what stands ahead of the place is nothing
	s := "%a b\n c  %d"
	for at, want := range []int{6, 1, 3, 3, 6, 6, 6, 11, 11, 11, 10, 11} {
		skips(t, s, at, want)
	}
	for _, s := range []string{"", "a", " ", "  a", "%a\nb"} {
		for _, at := range []int{-1, -2, -100, math.MinInt, math.MinInt + 1} {
			skips(t, s, at, 0)
		}
		for _, at := range []int{len(s), len(s) + 1, len(s) + 2, 100, 1 << 32, math.MaxInt - 1, math.MaxInt} {
			skips(t, s, at, len(s))
		}
	}
	if lex.Skip(nil, 0) != 0 || lex.Skip(nil, 7) != 0 || lex.Skip(nil, -7) != 0 {
		t.Error("Skip of no bytes")
	}
}

func TestSkipOfManyTexts(t *testing.T) { // P10.1
	texts("% \n\ra", 6, func(s string) {
		for at := range len(s) + 1 {
			skips(t, s, at, at+len(skipped.FindString(s[at:])))
		}
		few(t)
	})
	r := rand.New(rand.NewPCG(10, 1))
	for range 5000 {
		b := make([]byte, r.IntN(20))
		for i := range b {
			b[i] = "\x00\t\n\f\r    %%\va(\x80\xff"[r.IntN(16)]
		}
		at := r.IntN(len(b) + 1)
		skips(t, string(b), at, at+size(skipped.FindString(runes(b[at:]))))
		few(t)
	}
}

func TestSkipOfMuch(t *testing.T) { // P10.1
	n := 1 << 20
	skips(t, strings.Repeat(" ", n), 0, n)
	skips(t, strings.Repeat("%", n), 0, n)
	skips(t, strings.Repeat("%\n", n)+"x", 0, 2*n)
}

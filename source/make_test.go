package source_test

import (
	"math"
	"testing"

	"catchword/api"
	"catchword/source"
)

func TestNew(t *testing.T) { // P16.1: a source of that many bytes, of which none is known
	for _, total := range []int{0, 1, 2, 5, 255, 256, 1023, 1024, 1025, 4096, 65536, 1 << 24, most - 1, most} {
		s := made(t, total)
		if s.Total() != total {
			t.Errorf("Total of %d: %d", total, s.Total())
		}
		knows(t, s)
		for _, at := range []int{0, 1, 2, 1024, total - 1, total} {
			if at < 0 || at > total {
				continue
			}
			firsts(t, s, at, at)
			reads(t, s, at, 9, "", at == total)
			reads(t, s, at, 0, "", at == total)
		}
	}
}

func TestNewOfWrongLengths(t *testing.T) { // P16.1
	for _, total := range farOff {
		if s, e := source.New(total); s != nil || e != api.ErrRange {
			t.Errorf("New(%d): %v, %v", total, s, e)
		}
	}
}

func TestWhole(t *testing.T) { // P16.1: all bytes are known
	c := newChance(1)
	for _, n := range []int{1, 2, 3, 63, 64, 65, 255, 256, 257, 511, 512, 513, 1023, 1024, 1025, 2047, 2048, 2049, 4095, 4096, 4097, 8192, 9000, 65535, 65536, 65537, 200000} {
		b := c.bytes(n)
		s := source.Whole(b)
		if s == nil || s.Total() != n {
			t.Fatalf("Whole of %d: %v", n, s)
		}
		knows(t, s, 0, n)
		reads(t, s, 0, n, string(b), true)
		reads(t, s, 0, math.MaxInt, string(b), true)
		reads(t, s, 0, n-1, string(b[:n-1]), false)
		reads(t, s, n-1, 1, string(b[n-1:]), true)
		reads(t, s, n, 1, "", true)
		for range 20 {
			x := c.span(n)
			firsts(t, s, x.From, n)
			reads(t, s, x.From, x.To-x.From, string(b[x.From:x.To]), x.To == n)
		}
	}
}

func TestWholeOfNothing(t *testing.T) { // P16.1: a file of no bytes, all of which are known
	for _, b := range [][]byte{nil, {}, make([]byte, 0, 9)} {
		s := source.Whole(b)
		if s == nil || s.Total() != 0 {
			t.Fatalf("Whole of nothing: %v", s)
		}
		knows(t, s)
		firsts(t, s, 0, 0)
		reads(t, s, 0, 9, "", true)
		puts(t, s, 0, "", api.OK)
		puts(t, s, 0, "a", api.ErrRange)
		puts(t, s, 1, "", api.ErrArg)
	}
}

func TestWholeOfTooMuch(t *testing.T) { // P16.1: nil, if there are more than MaxFile
	if s := source.Whole(make([]byte, most+1)); s != nil {
		t.Errorf("Whole of %d bytes: a source of %d", most+1, s.Total())
	}
}

func TestWholeStaysWhatItIs(t *testing.T) { // P16.1 and P16.2: what is known already stays what it was
	b := newChance(2).bytes(3000)
	s := source.Whole(b)
	for _, x := range []api.Span{{From: 0, To: 3000}, {From: 1000, To: 1100}, {From: 2999, To: 3000}, {From: 3000, To: 3000}} {
		puts(t, s, x.From, string(make([]byte, x.To-x.From)), api.OK)
		reads(t, s, 0, 3000, string(b), true)
	}
}

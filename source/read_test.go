package source_test

import (
	"math"
	"slices"
	"strings"
	"testing"

	"catchword/api"
	"catchword/source"
)

// letters is a source of 10 bytes, of which those at 2 to 4 and at 6 to 8 are known, and the last one.
func letters(t *testing.T) *source.Source {
	t.Helper()
	s := made(t, 10)
	puts(t, s, 6, "gh", api.OK)
	puts(t, s, 2, "cd", api.OK)
	puts(t, s, 9, "j", api.OK)
	return s
}

func TestKnown(t *testing.T) { // P16.3: spans in form, whatever they were put by
	s := letters(t)
	knows(t, s, 2, 4, 6, 8, 9, 10)
	puts(t, s, 4, "e", api.OK)
	knows(t, s, 2, 5, 6, 8, 9, 10)
	puts(t, s, 4, "xf", api.OK)
	knows(t, s, 2, 8, 9, 10)
	puts(t, s, 0, "a", api.OK)
	knows(t, s, 0, 1, 2, 8, 9, 10)
	puts(t, s, 0, "abcdefghij", api.OK)
	knows(t, s, 0, 10)
}

func TestFirst(t *testing.T) { // P16.3: the least place from at on that is not known; Total, if there is none
	s := letters(t)
	for at, want := range []int{0, 1, 4, 4, 4, 5, 8, 8, 8, 10, 10} {
		firsts(t, s, at, want)
	}
	for _, at := range []int{11, 12, 1000, most, most + 1, math.MaxInt - 1, math.MaxInt} {
		firsts(t, s, at, 10)
	}
	for _, at := range []int{-1, -2, -10, -most, math.MinInt + 1, math.MinInt} {
		firsts(t, s, at, 0)
	}
	puts(t, s, 0, "ab", api.OK)
	for _, at := range []int{-1, -10, math.MinInt, 0, 1} {
		firsts(t, s, at, 4)
	}
	puts(t, s, 0, "abcdefghij", api.OK)
	for _, at := range []int{math.MinInt, -1, 0, 5, 9, 10, 11, math.MaxInt} {
		firsts(t, s, at, 10)
	}
}

func TestRead(t *testing.T) { // P16.3: up to the first byte that is not known, at most most
	s := letters(t)
	for _, most := range []int{2, 3, 8, 9, 1000, math.MaxInt} {
		reads(t, s, 2, most, "cd", false)
		reads(t, s, 6, most, "gh", false)
	}
	reads(t, s, 2, 1, "c", false)
	reads(t, s, 3, 1, "d", false)
	reads(t, s, 3, 9, "d", false)
	reads(t, s, 7, 2, "h", false)
	for _, at := range []int{0, 1, 4, 5, 8} {
		for _, most := range []int{0, 1, 10, math.MaxInt} {
			reads(t, s, at, most, "", false)
		}
	}
}

func TestReadAtTheEnd(t *testing.T) { // P16.3: whether the bytes go up to the file's end, of no bytes, too
	s := letters(t)
	for _, most := range []int{1, 2, 10, math.MaxInt} {
		reads(t, s, 9, most, "j", true)
		reads(t, s, 10, most, "", true)
	}
	reads(t, s, 9, 0, "", false)
	reads(t, s, 10, 0, "", true)
	puts(t, s, 8, "i", api.OK)
	reads(t, s, 6, 4, "ghij", true)
	reads(t, s, 6, 5, "ghij", true)
	reads(t, s, 6, 3, "ghi", false)
	reads(t, s, 6, 0, "", false)
}

func TestReadOfWrongPlaces(t *testing.T) { // P16.3: none and false, whatever is known
	for _, s := range []*source.Source{letters(t), made(t, 10), source.Whole([]byte("abcdefghij"))} {
		for _, at := range append([]int{11, 12, 1034, most}, farOff...) {
			for _, most := range []int{0, 1, 10, math.MaxInt, -1, math.MinInt} {
				reads(t, s, at, most, "", false)
			}
		}
		for at := 0; at <= 10; at++ {
			for _, most := range []int{-1, -2, -10, -11, -most, math.MinInt + 1, math.MinInt} {
				reads(t, s, at, most, "", false)
			}
		}
	}
}

func TestReadEachPiece(t *testing.T) { // P16.3: of each small file, of which any bytes are known
	for total := 0; total <= 6; total++ {
		for set := range 1 << total {
			s, m := made(t, total), modelOf(total)
			for at := range total {
				if set>>at&1 == 1 {
					puts(t, s, at, "abcdef"[at:at+1], m.put(at, []byte("abcdef"[at:at+1])))
				}
			}
			isAs(t, s, m, upto(-2, total+2), upto(-2, total+2))
		}
	}
}

func TestReadLong(t *testing.T) { // P16.3: at each place near powers of 2, and of each length near them
	b := newChance(4).bytes(10000)
	s := made(t, 10000)
	puts(t, s, 5, string(b[5:9990]), api.OK)
	var near []int
	for _, n := range []int{0, 64, 128, 256, 512, 1024, 2048, 3072, 4096, 8192} {
		near = append(near, upto(n-2, n+2)...)
	}
	for _, at := range near {
		if at < 5 {
			continue
		}
		for _, n := range near {
			if n >= 0 {
				reads(t, s, at, n, string(b[at:min(at+n, 9990)]), false)
			}
		}
		reads(t, s, at, math.MaxInt, string(b[at:9990]), false)
	}
}

func TestManyPieces(t *testing.T) { // P16.3: single bytes of a great file, rising, falling and mixed
	const total = 60000
	b := newChance(5).bytes(total)
	mixed := newChance(6).Perm(total)
	rising := upto(0, total-1)
	falling := slices.Clone(rising)
	slices.Reverse(falling)
	for _, order := range [][]int{rising, falling, mixed} {
		s := made(t, total)
		for _, at := range order {
			puts(t, s, at, string(b[at:at+1]), api.OK)
		}
		knows(t, s, 0, total)
		reads(t, s, 0, total, string(b), true)
	}
}

func TestFarPieces(t *testing.T) { // P16.1 to P16.3: a great file, of which a little is known, takes no room for the rest
	s := made(t, most)
	for k := range 1000 {
		puts(t, s, k*2000003, "piece", api.OK)
	}
	if l := s.Known(); len(l) != 1000 || l[999] != (api.Span{From: 999 * 2000003, To: 999*2000003 + 5}) {
		t.Errorf("Known: %d spans", len(l))
	}
	reads(t, s, 2000003*500, 9, "piece", false)
	reads(t, s, 2000003*500+5, 9, "", false)
	long := strings.Repeat("0123456789", 300)
	puts(t, s, 2000003*500, long, api.OK)
	reads(t, s, 2000003*500, 5000, "piece"+long[5:], false)
}

package deflate_test

import (
	"bytes"
	"math"
	"math/rand/v2"
	"slices"
	"strings"
	"testing"

	"catchword/api"
	"catchword/deflate"
	"catchword/inflate"
)

// parts packs bytes in parts, reads them block by block, and asks that each part is of its kind.
func parts(t *testing.T, b []byte, cuts, kinds []int) []byte {
	t.Helper()
	p, e := deflate.Blocks(b, cuts, kinds)
	if e != api.OK {
		t.Fatalf("%.40q, of %d, %v, %v: %v", b, len(b), cuts, kinds, e)
	}
	comesBack(t, p, b)
	x := plainly(t, p)
	ends := append(slices.Clone(cuts), len(b))
	from, rest := 0, x.blocks
	for i, to := range ends {
		for first := true; first || from < to; first = false {
			if len(rest) == 0 || rest[0].kind != kinds[i] || rest[0].from != from || rest[0].to > to || rest[0].fill != 0 {
				t.Fatalf("%.40q, of %d, %v, %v: part %d: %v", b, len(b), cuts, kinds, i, x.blocks)
			}
			if rest[0].to == from && from < to {
				t.Fatalf("%.40q, of %d, %v, %v: a block of none", b, len(b), cuts, kinds)
			}
			from, rest = rest[0].to, rest[1:]
		}
	}
	if len(rest) != 0 || !bytes.Equal(x.out, b) {
		t.Fatalf("%.40q, of %d, %v, %v: %d blocks more, %.40q", b, len(b), cuts, kinds, len(rest), x.out)
	}
	return p
}

// refuses asks for an error of parts, beside which there is nothing.
func refuses(t *testing.T, b []byte, cuts, kinds []int, want api.Errno) {
	t.Helper()
	if p, e := deflate.Blocks(b, cuts, kinds); len(p) != 0 || e != want {
		t.Errorf("%d bytes, %v, %v: %d, %v; want %v", len(b), cuts, kinds, len(p), e, want)
	}
}

// rows are all rows of n kinds.
func rows(n int) [][]int {
	out := [][]int{{}}
	for range n {
		var next [][]int
		for _, l := range out {
			for _, kind := range single {
				next = append(next, append(slices.Clone(l), kind))
			}
		}
		out = next
	}
	return out
}

func TestBlocksWithoutCuts(t *testing.T) { // P7.2: as the whole is packed
	for _, s := range append(texts, "", "a") {
		for _, kind := range single {
			parts(t, []byte(s), nil, []int{kind})
			parts(t, []byte(s), []int{}, []int{kind})
		}
	}
	p := parts(t, nil, nil, []int{deflate.Stored})
	if string(p) != "\x01\x00\x00\xff\xff" {
		t.Errorf("%x", p)
	}
}

func TestBlocksOfAllKinds(t *testing.T) { // P7.2: each part of its kind, also parts of none
	b := []byte("aaaaaaaabbbbbbbb, and abcabcabc")
	for _, cuts := range [][]int{{0}, {1}, {8}, {30}, {31}, {0, 0}, {0, 31}, {31, 31}, {4, 4, 8}, {8, 16, 16}, {0, 0, 0}, {31, 31, 31}, {1, 2, 3}, {0, 15, 31}, {3, 7, 7, 20}, {0, 0, 31, 31}} {
		for _, kinds := range rows(len(cuts) + 1) {
			parts(t, b, cuts, kinds)
		}
	}
	for n := range 5 {
		for _, kinds := range rows(n + 1) {
			parts(t, nil, make([]int, n), kinds)
		}
	}
}

func TestBlocksOfAllCuts(t *testing.T) { // P7.2: at each place
	b := []byte("abcabcabcabcxabcabc")
	for i := range len(b) + 1 {
		for j := i; j <= len(b); j++ {
			for _, kinds := range [][]int{{0, 1, 2}, {2, 0, 1}, {1, 2, 0}, {2, 1, 0}, {0, 2, 1}, {1, 0, 2}, {1, 1, 1}, {2, 2, 2}, {0, 0, 0}} {
				parts(t, b, []int{i, j}, kinds)
			}
		}
	}
	every := make([]int, len(b))
	for i := range every {
		every[i] = i
	}
	for _, kind := range single {
		parts(t, b, every, same(len(b)+1, kind))
	}
}

func TestBlocksStored(t *testing.T) { // P7.2: of more bytes than a block has, with 0 ahead of a byte wherever they begin
	b := noise(rand.New(rand.NewPCG(7, 6)), 200000, 256)
	for _, cuts := range [][]int{{65535}, {65536}, {1, 65536}, {1, 65537}, {131070}, {131071}, {5, 131075, 131076}, {69000, 70000}} {
		kinds := same(len(cuts)+1, deflate.Stored)
		if len(parts(t, b, cuts, kinds)) <= len(b) {
			t.Error(cuts)
		}
		kinds[0] = deflate.Fixed
		parts(t, b, cuts, kinds)
	}
	for n := range 9 {
		ahead := strings.Repeat("\xff", n)
		parts(t, []byte(ahead+"stored"), []int{n}, []int{deflate.Fixed, deflate.Stored})
	}
	p := parts(t, []byte("abcde"), []int{3}, []int{deflate.Stored, deflate.Stored})
	if string(p) != "\x00\x03\x00\xfc\xffabc\x01\x02\x00\xfd\xffde" {
		t.Errorf("%x", p)
	}
}

func TestCutsThatMayNotBe(t *testing.T) { // P7.2: that fall, below 0, behind the last byte
	b := []byte("aaaaaaaabbbbbbbb")
	for _, cuts := range [][]int{
		{-1}, {17}, {18}, {math.MinInt}, {math.MaxInt}, {1 << 32}, {1<<32 + 3}, {5, 4}, {1, 0}, {16, 15}, {0, -1}, {-1, 0}, {-1, -1}, {16, 17}, {17, 17}, {17, 3},
		{4, 8, 7}, {4, 3, 8}, {0, 0, -1}, {16, 16, 17}, {1, 2, 1}, {math.MinInt, 4, 8}, {4, 8, math.MaxInt}, {math.MaxInt, 0, 0},
	} {
		for _, kind := range single {
			refuses(t, b, cuts, same(len(cuts)+1, kind), api.ErrArg)
		}
	}
	for _, cut := range []int{-1, 1, 2} {
		refuses(t, nil, []int{cut}, []int{0, 0}, api.ErrArg)
	}
	parts(t, b, []int{16}, []int{0, 0})
	parts(t, b, []int{0}, []int{0, 0})
}

func TestKindsTooFewAndTooMany(t *testing.T) { // P7.2
	b := []byte("aaaaaaaabbbbbbbb")
	for _, cuts := range [][]int{nil, {}, {4}, {4, 8}, {0, 0, 16, 16}} {
		for n := range len(cuts) + 5 {
			if n == len(cuts)+1 {
				parts(t, b, cuts, same(n, deflate.Fixed))
				continue
			}
			refuses(t, b, cuts, same(n, deflate.Fixed), api.ErrArg)
		}
	}
	refuses(t, nil, nil, nil, api.ErrArg)
	refuses(t, nil, []int{0}, nil, api.ErrArg)
}

func TestKindsOfPartsThatThereAreNot(t *testing.T) { // P7.2: Least too
	b := []byte("aaaaaaaabbbbbbbb")
	for _, kind := range append([]int{deflate.Least}, wrong...) {
		refuses(t, b, nil, []int{kind}, api.ErrArg)
		refuses(t, nil, nil, []int{kind}, api.ErrArg)
		for i := range 3 {
			for _, cuts := range [][]int{{4, 8}, {0, 0}, {16, 16}} {
				kinds := []int{0, 1, 2}
				kinds[i] = kind
				refuses(t, b, cuts, kinds, api.ErrArg)
			}
		}
	}
}

func TestBlocksOfTooManyBytes(t *testing.T) { // P7.2: ahead of all else
	b := make([]byte, api.MaxData+1)
	for _, x := range []struct{ cuts, kinds []int }{
		{nil, []int{0}}, {nil, []int{2}}, {[]int{9}, []int{0, 1}}, {nil, nil}, {nil, []int{3}}, {[]int{-1}, []int{0, 0}}, {[]int{5, 4}, []int{0, 0, 0}}, {[]int{api.MaxData + 1}, []int{0, 0}},
	} {
		refuses(t, b, x.cuts, x.kinds, api.ErrLong)
	}
	b = b[:api.MaxData]
	p, e := deflate.Blocks(b, []int{0, 1, api.MaxData / 2, api.MaxData}, []int{2, 0, 1, 2, 0})
	out, n, f := inflate.Inflate(p, api.MaxData)
	if e != api.OK || f != api.OK || n != len(p) || !bytes.Equal(out, b) {
		t.Errorf("%d, %v; %d, %d, %v", len(p), e, len(out), n, f)
	}
	refuses(t, b, []int{api.MaxData + 1}, []int{0, 0}, api.ErrArg)
}

func TestManyBlocks(t *testing.T) { // P7.2 and P7.6: cuts and kinds of all sorts
	r := rand.New(rand.NewPCG(7, 7))
	for range 400 {
		b := noise(r, r.IntN(3000)>>r.IntN(9), 1+r.IntN(256)>>r.IntN(9))
		cuts := make([]int, r.IntN(12)>>r.IntN(4))
		for i := range cuts {
			cuts[i] = r.IntN(len(b) + 1)
		}
		slices.Sort(cuts)
		kinds := []int{r.IntN(3)}
		for range cuts {
			kinds = append(kinds, r.IntN(3))
		}
		parts(t, b, cuts, kinds)
	}
}

func TestBlocksNeitherChangeNorShare(t *testing.T) { // P7.2 by rules R3 and R4
	room, cuts, kinds := []byte("abcabcabcabcxyzabcabc"), []int{4, 4, 9, 99}, []int{2, 0, 1, 2, 3}
	kept, keptCuts, keptKinds := string(room), slices.Clone(cuts), slices.Clone(kinds)
	p, _ := deflate.Blocks(room[:12], cuts[:3], kinds[:4])
	q, _ := deflate.Blocks([]byte(kept[:12]), keptCuts[:3], keptKinds[:4])
	if !bytes.Equal(p, q) || string(room) != kept || !slices.Equal(cuts, keptCuts) || !slices.Equal(kinds, keptKinds) {
		t.Errorf("%x, %x, %q, %v, %v", p, q, room, cuts, kinds)
	}
	for i := range p[:cap(p)] {
		p[:cap(p)][i] = 9
	}
	room[0], cuts[0], kinds[0] = 'z', 0, 0
	comesBack(t, q, []byte(kept[:12]))
}

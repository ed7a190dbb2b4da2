package deflate_test

import (
	"bytes"
	"compress/flate"
	"io"
	"math"
	"math/rand/v2"
	"slices"
	"strings"
	"testing"

	"catchword/api"
	"catchword/deflate"
	"catchword/inflate"
)

// single are the kinds of blocks, wrong are kinds that there are not.
var (
	single = []int{deflate.Stored, deflate.Fixed, deflate.Dynamic}
	wrong  = []int{-1, -2, 4, 5, 255, 256, 1 << 16, 1 << 32, 1<<32 + 1, math.MaxInt, math.MinInt, math.MinInt + 1}
)

// comesBack asks that packed bytes are b, all of them, by inflate, by inflate with others behind, and by the library.
func comesBack(t *testing.T, p, b []byte) {
	t.Helper()
	for _, behind := range []string{"", "\x00", "\xff\xff\xff\xff behind"} {
		out, n, e := inflate.Inflate(append(slices.Clone(p), behind...), len(b))
		if e != api.OK || n != len(p) || !bytes.Equal(out, b) {
			t.Fatalf("%.40q, of %d: %d bytes, of which %d are looked at: %d, %v", b, len(b), len(p), n, len(out), e)
		}
	}
	r := flate.NewReader(bytes.NewReader(p))
	if out, e := io.ReadAll(r); e != nil || !bytes.Equal(out, b) {
		t.Fatalf("%.40q, of %d: by the library %d, %v", b, len(b), len(out), e)
	}
}

// packs packs bytes by a kind, and asks that they come back.
func packs(t *testing.T, b []byte, kind int) []byte {
	t.Helper()
	p, e := deflate.Deflate(b, kind)
	if e != api.OK {
		t.Fatalf("%.40q, of %d, kind %d: %v", b, len(b), kind, e)
	}
	comesBack(t, p, b)
	return p
}

// packsAll packs bytes by each kind, and by Least, which has as many as the least ones have.
func packsAll(t *testing.T, b []byte) {
	t.Helper()
	fewest, kind := math.MaxInt, -1
	for _, k := range single {
		p := packs(t, b, k)
		if len(p) < fewest {
			fewest, kind = len(p), k
		}
		if k == deflate.Stored && len(p) > deflate.Bound(len(b)) {
			t.Errorf("%.40q, of %d: stored as %d, bound by %d", b, len(b), len(p), deflate.Bound(len(b)))
		}
	}
	p := packs(t, b, deflate.Least)
	if len(p) > fewest || len(p) > deflate.Bound(len(b)) {
		t.Errorf("%.40q, of %d: least %d, by one kind %d, bound by %d", b, len(b), len(p), fewest, deflate.Bound(len(b)))
	}
	if got := int(p[0]) >> 1 & 3; got != kind {
		t.Errorf("%.40q, of %d: least by kind %d, want %d", b, len(b), got, kind)
	}
}

// readsAll packs bytes by each kind, reads them block by block, and asks that each block is of that kind.
func readsAll(t *testing.T, b []byte) {
	t.Helper()
	packsAll(t, b)
	for _, kind := range single {
		p, _ := deflate.Deflate(b, kind)
		x := plainly(t, p)
		if !bytes.Equal(x.out, b) {
			t.Fatalf("%.40q, of %d, kind %d: %.40q", b, len(b), kind, x.out)
		}
		for _, y := range x.blocks {
			if y.kind != kind {
				t.Errorf("%.40q, of %d, kind %d: a block of kind %d", b, len(b), kind, y.kind)
			}
		}
	}
}

// stored is what Stored says of bytes, by the chapter's words.
func stored(b []byte) []byte {
	var out []byte
	for more := true; more; {
		n := min(len(b), 65535)
		more = n < len(b)
		head := byte(1)
		if more {
			head = 0
		}
		out = append(out, head, byte(n), byte(n>>8), ^byte(n), ^byte(n>>8))
		out = append(out, b[:n]...)
		b = b[n:]
	}
	return out
}

// texts are ordinary ones.
var texts = []string{
	"abc", "hello hello hello hello", "the quick brown fox jumps over the lazy dog",
	"<</Type/Page/Parent 2 0 R/MediaBox[0 0 612 792]>> <</Type/Page/Parent 2 0 R/MediaBox[0 0 612 792]>>",
	strings.Repeat("BT /F1 12 Tf 72 720 Td (some words) Tj ET\n", 200),
	strings.Repeat("a", 1000), strings.Repeat("ab", 1000), "\x00\x00\x00\x00\x00\x00\x00\x00", "\xff\x00\xff\x00",
}

func TestExamples(t *testing.T) { // P7.1, and the chapter's example
	for _, x := range []struct {
		b    []byte
		kind int
		want string
	}{
		{nil, deflate.Stored, "\x01\x00\x00\xff\xff"},
		{[]byte{}, deflate.Stored, "\x01\x00\x00\xff\xff"},
		{[]byte("abc"), deflate.Stored, "\x01\x03\x00\xfc\xffabc"},
		{nil, deflate.Fixed, "\x03\x00"},
		{[]byte("a"), deflate.Fixed, "\x4b\x04\x00"},
		{nil, deflate.Least, "\x03\x00"},
		{[]byte("a"), deflate.Least, "\x4b\x04\x00"},
	} {
		if p, e := deflate.Deflate(x.b, x.kind); string(p) != x.want || e != api.OK {
			t.Errorf("%q, kind %d: %q, %v; want %q", x.b, x.kind, p, e, x.want)
		}
	}
}

func TestKindsThatThereAreNot(t *testing.T) { // P7.1: below 0, and above 3; ahead of too many bytes
	for _, kind := range wrong {
		for _, b := range [][]byte{nil, []byte("a"), []byte("hello hello"), make([]byte, api.MaxData+1)} {
			if p, e := deflate.Deflate(b, kind); len(p) != 0 || e != api.ErrArg {
				t.Errorf("%d bytes, kind %d: %d, %v", len(b), kind, len(p), e)
			}
		}
	}
	if deflate.Stored != 0 || deflate.Fixed != 1 || deflate.Dynamic != 2 || deflate.Least != 3 {
		t.Error("kinds of other numbers")
	}
}

func TestNoBytesAndOne(t *testing.T) { // P7.1
	readsAll(t, nil)
	readsAll(t, []byte{})
	for x := range 256 {
		readsAll(t, []byte{byte(x)})
		readsAll(t, []byte{byte(x), byte(x)})
	}
}

func TestTexts(t *testing.T) { // P7.1
	for _, s := range texts {
		readsAll(t, []byte(s))
	}
	for _, s := range texts[4:7] {
		if p := packs(t, []byte(s), deflate.Least); len(p) >= len(s)/5 {
			t.Errorf("%.40q: %d of %d", s, len(p), len(s))
		}
	}
}

func TestAllShortTexts(t *testing.T) { // P7.1
	for letters, longest := range map[int]int{2: 9, 3: 5} {
		for n := range longest + 1 {
			b := make([]byte, n)
			for left := true; left; {
				readsAll(t, b)
				left = false
				for i := range b {
					b[i] = (b[i] + 1) % byte(letters)
					if b[i] > 0 {
						left = true
						break
					}
				}
			}
		}
	}
}

func TestStored(t *testing.T) { // P7.1: the blocks' lengths, and 0 ahead of a byte
	all := noise(rand.New(rand.NewPCG(7, 1)), 200000, 256)
	for _, n := range []int{0, 1, 2, 255, 256, 257, 32768, 65534, 65535, 65536, 65537, 131069, 131070, 131071, 196605, 196606, 200000} {
		b := all[:n]
		p := packs(t, b, deflate.Stored)
		if !bytes.Equal(p, stored(b)) || len(p) != deflate.Bound(n) {
			t.Errorf("%d: %d, %.20x", n, len(p), p)
		}
		for i, x := range plainly(t, p).blocks {
			if x.kind != deflate.Stored || x.fill != 0 || x.from != 65535*i || x.to != min(65535*i+65535, n) || x.last != (x.to == n) {
				t.Errorf("%d: block %d: %v", n, i, x)
			}
		}
	}
}

func TestMaxData(t *testing.T) { // P7.1: as many bytes as may be, and one more
	alike := make([]byte, api.MaxData+1)
	for kind := deflate.Stored; kind <= deflate.Least; kind++ {
		for _, n := range []int{api.MaxData - 1, api.MaxData} {
			p, e := deflate.Deflate(alike[:n], kind)
			out, at, f := inflate.Inflate(p, n)
			if e != api.OK || f != api.OK || at != len(p) || !bytes.Equal(out, alike[:n]) {
				t.Errorf("%d, kind %d: %d, %v; %d, %d, %v", n, kind, len(p), e, len(out), at, f)
			}
			if kind == deflate.Stored && len(p) != deflate.Bound(n) || kind == deflate.Least && len(p) > n/500 {
				t.Errorf("%d, kind %d: %d", n, kind, len(p))
			}
		}
		for _, b := range [][]byte{alike, make([]byte, api.MaxData+70000)} {
			if p, e := deflate.Deflate(b, kind); len(p) != 0 || e != api.ErrLong {
				t.Errorf("%d, kind %d: %d, %v", len(b), kind, len(p), e)
			}
		}
	}
}

func TestMaxDataOfNoise(t *testing.T) { // P7.1: what does not get less is bound
	b := noise(rand.New(rand.NewPCG(7, 2)), api.MaxData, 256)
	p, e := deflate.Deflate(b, deflate.Least)
	out, at, f := inflate.Inflate(p, api.MaxData)
	if e != api.OK || f != api.OK || at != len(p) || !bytes.Equal(out, b) || len(p) > deflate.Bound(len(b)) {
		t.Errorf("%d, %v; %d, %d, %v", len(p), e, len(out), at, f)
	}
}

func TestWithoutRepetition(t *testing.T) { // P7.1: there is no distance to be told
	all := make([]byte, 256)
	for i := range all {
		all[i] = byte(i)
	}
	for _, b := range [][]byte{nil, []byte("a"), []byte("no three follow"), all[:2], all[100:200], all, distinct(1000), distinct(65536)} {
		readsAll(t, b)
		p, _ := deflate.Deflate(b, deflate.Dynamic)
		for _, x := range plainly(t, p).blocks {
			if x.repetitions != 0 || slices.Max(x.distances) != 0 {
				t.Errorf("%.40q, of %d: %d repetitions, %v", b, len(b), x.repetitions, x.distances)
			}
		}
	}
}

func TestOneDistanceAlone(t *testing.T) { // P7.1
	for _, s := range []string{"aaaa", "abababab", "abcdefghabcdefgh", strings.Repeat("a", 70000)} {
		readsAll(t, []byte(s))
		p, _ := deflate.Deflate([]byte(s), deflate.Dynamic)
		if x := plainly(t, p).blocks[0]; x.repetitions == 0 {
			t.Errorf("%.40q: no repetition", s)
		}
	}
	all := distinct(32768)
	for _, far := range []int{1, 2, 3, 4, 5, 255, 256, 257, 8192, 24576, 24577, 32767, 32768} {
		for _, n := range []int{3, 4, 10, 11, 257, 258, 259, 600} {
			if n <= far {
				packsAll(t, append(slices.Clone(all[:far]), all[:n]...))
			}
		}
	}
}

func TestOneValueAndAllValues(t *testing.T) { // P7.1
	for _, n := range []int{2, 3, 4, 5, 100, 257, 258, 259, 260, 261, 262, 517, 65535, 65536, 100000} {
		for _, x := range []byte{0, 'a', 143, 144, 255} {
			packsAll(t, bytes.Repeat([]byte{x}, n))
		}
	}
	all := make([]byte, 256)
	for i := range all {
		all[i] = byte(i)
	}
	readsAll(t, bytes.Repeat(all, 300))
	slices.Reverse(all)
	readsAll(t, bytes.Repeat(all, 3))
}

func TestCountsOfCodesTooLong(t *testing.T) { // P7.1: of symbols, of distances, and of lengths
	var symbols, distances, lengths int
	try := func(b []byte) {
		readsAll(t, b)
		p, _ := deflate.Deflate(b, deflate.Dynamic)
		x := plainly(t, p).blocks[0]
		symbols, distances, lengths = max(symbols, deepest(x.timesS)), max(distances, deepest(append(x.timesD, 1))), max(lengths, deepest(x.timesK))
	}
	for seed := range uint64(30) {
		r := rand.New(rand.NewPCG(7, seed))
		try(skewed(r, 1+r.IntN(20000)>>r.IntN(5), 1.005+r.Float64()*0.05))
	}
	try(skewed(rand.New(rand.NewPCG(7, 4)), 200000, 1.05))
	try(fading())
	if symbols <= 15 || distances <= 15 || lengths <= 7 {
		t.Errorf("no code is too long: %d, %d, %d", symbols, distances, lengths)
	}
}

func TestManyTexts(t *testing.T) { // P7.1 and P7.6: few letters and many, and parts that come again
	r := rand.New(rand.NewPCG(7, 3))
	won := map[byte]int{}
	for i := range 1500 {
		b := noise(r, r.IntN(2000)>>r.IntN(8), 1+r.IntN(256)>>r.IntN(9))
		for range r.IntN(6) {
			from := r.IntN(len(b) + 1)
			part := b[from : from+r.IntN(len(b)-from+1)]
			b = slices.Concat(b, part, noise(r, r.IntN(4), 256))
			if len(b) > 90000 {
				break
			}
		}
		packsAll(t, b)
		if i%20 == 0 {
			readsAll(t, b)
		}
		p, _ := deflate.Deflate(b, deflate.Least)
		won[p[0]>>1&3]++
	}
	for _, kind := range single {
		if won[byte(kind)] < 5 {
			t.Errorf("kind %d is the least %d times", kind, won[byte(kind)])
		}
	}
}

func TestLeastIsTheFirstOfSuch(t *testing.T) { // P7.1: by whole bytes, not by bits
	r := rand.New(rand.NewPCG(7, 4))
	storedAndFixed, fixedAndDynamic := 0, 0
	for i := range 6000 {
		b := noise(r, 3+r.IntN(60), 256)
		if i%2 == 0 {
			b = noise(r, 50+r.IntN(300), 3+r.IntN(60))
		}
		a, _ := deflate.Deflate(b, deflate.Stored)
		c, _ := deflate.Deflate(b, deflate.Fixed)
		d, _ := deflate.Deflate(b, deflate.Dynamic)
		want := a
		for _, p := range [][]byte{c, d} {
			if len(p) < len(want) {
				want = p
			}
		}
		if len(a) == len(c) && len(a) <= len(d) {
			storedAndFixed++
		}
		if len(c) == len(d) && len(c) < len(a) {
			fixedAndDynamic++
		}
		if p, e := deflate.Deflate(b, deflate.Least); !bytes.Equal(p, want) || e != api.OK {
			t.Fatalf("%q: %x, %v; want %x", b, p, e, want)
		}
	}
	if storedAndFixed == 0 || fixedAndDynamic == 0 {
		t.Error("no two kinds make as many bytes", storedAndFixed, fixedAndDynamic)
	}
}

func TestDeflateNeitherChangesNorShares(t *testing.T) { // P7.1 by rules R3 and R4
	room := []byte("abcabcabcabcxyzabcabc")
	kept := string(room)
	for kind := deflate.Stored; kind <= deflate.Least; kind++ {
		p, _ := deflate.Deflate(room[:12], kind)
		q, _ := deflate.Deflate([]byte(kept[:12]), kind)
		if !bytes.Equal(p, q) || string(room) != kept {
			t.Errorf("kind %d: %x, %x, %q", kind, p, q, room)
		}
		for i := range p[:cap(p)] {
			p[:cap(p)][i] = 9
		}
		room[0] = 'z'
		comesBack(t, q, []byte(kept[:12]))
		room[0] = 'a'
		if p, _ = deflate.Deflate(room[:12], kind); !bytes.Equal(p, q) {
			t.Errorf("kind %d: %x, %x", kind, p, q)
		}
	}
}

func TestBound(t *testing.T) { // P7.3
	for n, want := range map[int]int{
		-1: 0, -2: 0, -65535: 0, math.MinInt: 0, 0: 5, 1: 6, 2: 7, 65534: 65539, 65535: 65540, 65536: 65546, 65537: 65547,
		131069: 131079, 131070: 131080, 131071: 131086, 196605: 196620, 196606: 196626,
		api.MaxData - 1: api.MaxData - 1 + 5*257, api.MaxData: api.MaxData + 5*257,
		api.MaxData + 1: 0, api.MaxData + 65535: 0, 1 << 31: 0, 1 << 32: 0, 1<<32 + 1: 0, math.MaxInt: 0, math.MaxInt - 4: 0,
	} {
		if got := deflate.Bound(n); got != want {
			t.Errorf("Bound(%d): %d, want %d", n, got, want)
		}
	}
	for n := 0; n <= 300000; n += 1 + n%7 {
		want := n + 5
		for k := 65536; k <= n; k += 65535 {
			want += 5
		}
		if got := deflate.Bound(n); got != want {
			t.Errorf("Bound(%d): %d, want %d", n, got, want)
		}
	}
}

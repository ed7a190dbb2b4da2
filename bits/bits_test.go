package bits_test

import (
	"bytes"
	"math"
	"math/rand/v2"
	"strconv"
	"testing"

	"catchword/api"
	"catchword/bits"
)

var ends = []bool{true, false}

// put puts numbers that must be taken.
func put(t *testing.T, w *bits.Writer, x uint32, n int) {
	t.Helper()
	if e := w.Put(x, n); e != api.OK {
		t.Fatalf("Put(%d, %d): %v", x, n, e)
	}
}

// hasBits asks what a writer tells of its bits.
func hasBits(t *testing.T, w *bits.Writer, n int, want ...byte) {
	t.Helper()
	if w.Len() != n || !bytes.Equal(w.Bytes(), want) {
		t.Errorf("%d bits %v, want %d bits %v", w.Len(), w.Bytes(), n, want)
	}
}

// gets asks for the next number, and where the reader stands then.
func gets(t *testing.T, r *bits.Reader, n int, want uint32, e api.Errno, at, left int) {
	t.Helper()
	x, got := r.Get(n)
	if x != want || got != e || r.At() != at || r.Left() != left {
		t.Errorf("Get(%d): %d, %v, at %d, left %d; want %d, %v, at %d, left %d", n, x, got, r.At(), r.Left(), want, e, at, left)
	}
}

// greatest is the greatest number of n bits.
func greatest(n int) uint32 { return uint32(1<<n - 1) }

// row is the plain way to lay bits: a list of single ones.
type row struct {
	high bool
	l    []byte
}

func (m *row) put(x uint32, n int) {
	for i := range n {
		if m.high {
			i = n - 1 - i
		}
		m.l = append(m.l, byte(x>>i&1))
	}
}

func (m *row) align() {
	for len(m.l)%8 != 0 {
		m.l = append(m.l, 0)
	}
}

func (m *row) bytes() []byte {
	b := make([]byte, (len(m.l)+7)/8)
	for i, x := range m.l {
		if m.high {
			b[i/8] |= x << (7 - i%8)
		} else {
			b[i/8] |= x << (i % 8)
		}
	}
	return b
}

func TestNewHasNoBits(t *testing.T) { // P1.1
	for _, high := range ends {
		w := bits.New(high)
		hasBits(t, w, 0)
		w.Align()
		hasBits(t, w, 0)
		put(t, w, 0, 0)
		hasBits(t, w, 0)
	}
}

func TestPutLaysBitsFromEitherEnd(t *testing.T) { // P1.1, and the chapter's example
	w := bits.New(true)
	put(t, w, 5, 3)
	hasBits(t, w, 3, 160)
	put(t, w, 1, 2)
	hasBits(t, w, 5, 168)
	put(t, w, 0x2cd, 10)
	hasBits(t, w, 15, 0b10101101, 0b10011010)
	put(t, w, 0x12345678, 32)
	hasBits(t, w, 47, 0b10101101, 0b10011010, 0x24, 0x68, 0xac, 0xf0)

	w = bits.New(false)
	put(t, w, 5, 3)
	hasBits(t, w, 3, 5)
	put(t, w, 1, 2)
	hasBits(t, w, 5, 13)
	put(t, w, 0x2cd, 10)
	hasBits(t, w, 15, 0b10101101, 0b01011001)
	put(t, w, 0x12345678, 32)
	hasBits(t, w, 47, 0b10101101, 0b01011001, 0x3c, 0x2b, 0x1a, 0x09)

	w = bits.New(true)
	put(t, w, 0x01020304, 32)
	hasBits(t, w, 32, 1, 2, 3, 4)
	w = bits.New(false)
	put(t, w, 0x01020304, 32)
	hasBits(t, w, 32, 4, 3, 2, 1)
}

func TestPutOfEachWidth(t *testing.T) { // P1.1: widths 0 to 32, the greatest number of each, and one more
	for _, high := range ends {
		for n := 0; n <= 32; n++ {
			for ahead := range 8 {
				w, m := bits.New(high), row{high: high}
				for _, x := range []struct {
					x uint32
					n int
				}{{greatest(ahead), ahead}, {greatest(n), n}, {greatest(n) / 3, n}, {0, n}, {1, 1}} {
					put(t, w, x.x, x.n)
					m.put(x.x, x.n)
					hasBits(t, w, len(m.l), m.bytes()...)
				}
			}
		}
	}
}

func TestPutRefuses(t *testing.T) { // P1.1: ErrArg, and nothing is changed
	type wrong struct {
		x uint32
		n int
	}
	l := []wrong{{0, -1}, {1, -1}, {0, -32}, {0, 33}, {1, 33}, {math.MaxUint32, 33}, {0, 64}, {0, 256}, {0, 1 << 32}, {0, math.MinInt}, {5, math.MaxInt}}
	for n := range 32 {
		l = append(l, wrong{1 << n, n}, wrong{1<<n + 1, n}, wrong{math.MaxUint32, n}, wrong{1 << 31, n})
	}
	for _, high := range ends {
		for _, x := range l {
			w, m := bits.New(high), row{high: high}
			if e := w.Put(x.x, x.n); e != api.ErrArg {
				t.Errorf("Put(%d, %d) at first: %v", x.x, x.n, e)
			}
			hasBits(t, w, 0)
			put(t, w, 5, 3)
			if e := w.Put(x.x, x.n); e != api.ErrArg {
				t.Errorf("Put(%d, %d): %v", x.x, x.n, e)
			}
			put(t, w, 0x155, 9)
			m.put(5, 3)
			m.put(0x155, 9)
			hasBits(t, w, 12, m.bytes()...)
		}
	}
}

func TestWriterAlign(t *testing.T) { // P1.1: bits 0, as few as may be
	for _, high := range ends {
		for n := 0; n <= 32; n++ {
			w, m := bits.New(high), row{high: high}
			put(t, w, greatest(n), n)
			m.put(greatest(n), n)
			for range 2 {
				w.Align()
				m.align()
				hasBits(t, w, (n+7)/8*8, m.bytes()...)
			}
			put(t, w, 6, 3)
			m.put(6, 3)
			hasBits(t, w, len(m.l), m.bytes()...)
		}
	}
}

func TestBytesEndsNothing(t *testing.T) { // P1.1: bits put behind Bytes go on in the same byte
	for _, high := range ends {
		w, m := bits.New(high), row{high: high}
		for range 40 {
			put(t, w, 1, 1)
			m.put(1, 1)
			hasBits(t, w, len(m.l), m.bytes()...)
			hasBits(t, w, len(m.l), m.bytes()...)
		}
	}
}

func TestBytesAreNobodyElses(t *testing.T) { // P1.1 by rule R3
	for _, high := range ends {
		w := bits.New(high)
		put(t, w, 0x1234567, 29)
		want := w.Bytes()
		b := w.Bytes()
		b = b[:cap(b)]
		for i := range b {
			b[i] = 0xff
		}
		hasBits(t, w, 29, want...)
		put(t, w, 0, 32)
		b = w.Bytes()
		m := row{high: high}
		m.put(0x1234567, 29)
		m.put(0, 32)
		put(t, w, greatest(32), 32)
		if !bytes.Equal(b, m.bytes()) {
			t.Errorf("%v were changed by a later Put", b)
		}
	}
}

func TestWritersAreApart(t *testing.T) { // P1.1 by rule R4
	v, w := bits.New(true), bits.New(false)
	put(t, v, 5, 3)
	hasBits(t, w, 0)
	put(t, w, 5, 3)
	hasBits(t, v, 3, 160)
	hasBits(t, w, 3, 5)
}

func TestGetTakesBitsFromEitherEnd(t *testing.T) { // P1.2
	b := []byte{0b10101101, 0b10011010, 0x24, 0x68, 0xac, 0xf0}
	r := bits.Read(b, true)
	gets(t, r, 3, 5, api.OK, 3, 45)
	gets(t, r, 2, 1, api.OK, 5, 43)
	gets(t, r, 0, 0, api.OK, 5, 43)
	gets(t, r, 10, 0x2cd, api.OK, 15, 33)
	gets(t, r, 32, 0x12345678, api.OK, 47, 1)
	gets(t, r, 1, 0, api.OK, 48, 0)

	b = []byte{0b10101101, 0b01011001, 0x3c, 0x2b, 0x1a, 0x89}
	r = bits.Read(b, false)
	gets(t, r, 3, 5, api.OK, 3, 45)
	gets(t, r, 2, 1, api.OK, 5, 43)
	gets(t, r, 0, 0, api.OK, 5, 43)
	gets(t, r, 10, 0x2cd, api.OK, 15, 33)
	gets(t, r, 32, 0x12345678, api.OK, 47, 1)
	gets(t, r, 1, 1, api.OK, 48, 0)
}

func TestGetOfEachWidth(t *testing.T) { // P1.2: widths 0 to 32, from each place in a byte
	b := []byte{0x9d, 0x3b, 0xc6, 0x51, 0xe8, 0x07}
	for _, high := range ends {
		for ahead := range 8 {
			for n := 0; n <= 32; n++ {
				r := bits.Read(b, high)
				gets(t, r, ahead, plain(b, high, 0, ahead), api.OK, ahead, 48-ahead)
				gets(t, r, n, plain(b, high, ahead, n), api.OK, ahead+n, 48-ahead-n)
			}
		}
	}
}

// plain is the number of n bits from a place on, taken one by one.
func plain(b []byte, high bool, at, n int) uint32 {
	x := uint32(0)
	for i := range n {
		c, k := b[(at+i)/8], (at+i)%8
		if high {
			x = x<<1 | uint32(c>>(7-k)&1)
		} else {
			x |= uint32(c>>k&1) << i
		}
	}
	return x
}

func TestGetRefuses(t *testing.T) { // P1.2: ErrArg, ahead of ErrCut, and nothing is taken
	for _, high := range ends {
		for _, n := range []int{-1, -8, 33, 64, 1 << 32, math.MinInt, math.MaxInt} {
			r := bits.Read([]byte{255, 255, 255, 255, 255, 255, 255, 255, 255}, high)
			gets(t, r, n, 0, api.ErrArg, 0, 72)
			gets(t, r, 3, 7, api.OK, 3, 69)
			gets(t, r, n, 0, api.ErrArg, 3, 69)
			gets(t, bits.Read([]byte{255}, high), n, 0, api.ErrArg, 0, 8)
			gets(t, bits.Read(nil, high), n, 0, api.ErrArg, 0, 0)
		}
	}
}

func TestGetPastTheEnd(t *testing.T) { // P1.2: ErrCut, and none is taken
	for _, high := range ends {
		for size := range 5 {
			for n := 0; n <= 32; n++ {
				r := bits.Read(bytes.Repeat([]byte{255}, size), high)
				left := 8 * size
				if n <= left {
					gets(t, r, n, greatest(n), api.OK, n, left-n)
				} else {
					gets(t, r, n, 0, api.ErrCut, 0, left)
				}
				at := r.At()
				if k := left - at; k < 32 {
					gets(t, r, k+1, 0, api.ErrCut, at, k)
					gets(t, r, k, greatest(k), api.OK, left, 0)
					gets(t, r, 1, 0, api.ErrCut, left, 0)
					gets(t, r, 32, 0, api.ErrCut, left, 0)
					gets(t, r, 0, 0, api.OK, left, 0)
				}
			}
		}
	}
}

func TestReadOfNothing(t *testing.T) { // P1.2: no list and an empty one are one
	for _, high := range ends {
		for _, b := range [][]byte{nil, {}} {
			r := bits.Read(b, high)
			gets(t, r, 0, 0, api.OK, 0, 0)
			r.Align()
			gets(t, r, 1, 0, api.ErrCut, 0, 0)
		}
	}
}

func TestReaderAlign(t *testing.T) { // P1.2
	for _, high := range ends {
		for n := 0; n <= 24; n++ {
			r := bits.Read([]byte{0xa5, 0x3c, 0xf1}, high)
			gets(t, r, n, plain([]byte{0xa5, 0x3c, 0xf1}, high, 0, n), api.OK, n, 24-n)
			at := (n + 7) / 8 * 8
			for range 2 {
				r.Align()
				if r.At() != at || r.Left() != 24-at {
					t.Errorf("behind %d bits: at %d, left %d, want at %d", n, r.At(), r.Left(), at)
				}
			}
			if at < 24 {
				gets(t, r, 8, plain([]byte{0xa5, 0x3c, 0xf1}, high, at, 8), api.OK, at+8, 16-at)
			} else {
				gets(t, r, 1, 0, api.ErrCut, 24, 0)
			}
		}
	}
}

func TestReadKeepsNoList(t *testing.T) { // P1.2 by rule R3
	for _, high := range ends {
		room := []byte{1, 2, 3, 4}
		b := room[:2]
		r := bits.Read(b, high)
		gets(t, r, 8, 1, api.OK, 8, 8)
		b[0], b[1] = 9, 9
		gets(t, r, 8, 2, api.OK, 16, 0)
		if !bytes.Equal(room, []byte{9, 9, 3, 4}) {
			t.Error("the list was changed", room)
		}
	}
}

func TestReadersAreApart(t *testing.T) { // P1.2 by rule R4
	b := []byte{0x81, 0x42}
	q, r := bits.Read(b, true), bits.Read(b, false)
	gets(t, q, 9, 0x102, api.OK, 9, 7)
	gets(t, r, 3, 1, api.OK, 3, 13)
	q.Align()
	gets(t, r, 5, 16, api.OK, 8, 8)
}

func TestWidth(t *testing.T) { // P1.3
	if bits.Width(0) != 0 {
		t.Error("width of 0:", bits.Width(0))
	}
	for n := range 32 {
		for _, x := range []uint32{1 << n, 1<<n | 1<<n/2, greatest(n + 1)} {
			if bits.Width(x) != n+1 {
				t.Errorf("width of %d: %d, want %d", x, bits.Width(x), n+1)
			}
		}
	}
	for x := range uint32(5000) {
		if want := len(strconv.FormatUint(uint64(x), 2)); x > 0 && bits.Width(x) != want {
			t.Errorf("width of %d: %d, want %d", x, bits.Width(x), want)
		}
	}
}

func TestWritersThatNoCallMade(t *testing.T) { // P1.4
	for _, w := range []*bits.Writer{nil, {}, new(bits.Writer)} {
		for _, x := range []struct {
			x uint32
			n int
		}{{0, 0}, {1, 1}, {5, 3}, {math.MaxUint32, 32}, {8, 3}, {0, -1}, {0, 33}} {
			if e := w.Put(x.x, x.n); e != api.ErrNil {
				t.Errorf("Put(%d, %d): %v", x.x, x.n, e)
			}
			w.Align()
			hasBits(t, w, 0)
		}
	}
}

func TestReadersThatNoCallMade(t *testing.T) { // P1.4
	for _, r := range []*bits.Reader{nil, {}, new(bits.Reader)} {
		for _, n := range []int{0, 1, 32, -1, 33} {
			gets(t, r, n, 0, api.ErrNil, 0, 0)
			r.Align()
			gets(t, r, n, 0, api.ErrNil, 0, 0)
		}
	}
}

func TestWhatIsPutIsGot(t *testing.T) { // P1.5: in whatever widths, aligned or not, beside wrong calls
	for seed := range uint64(400) {
		rnd := rand.New(rand.NewPCG(seed, 1))
		high := seed%2 == 0
		w, m := bits.New(high), row{high: high}
		type step struct {
			x uint32
			n int
		}
		var l []step
		for range 1 + rnd.IntN(60) {
			n := rnd.IntN(36) - 1
			x := rnd.Uint32() >> rnd.IntN(32)
			if n <= 32 && n >= 0 {
				x &= greatest(n)
			}
			switch {
			case n < 0:
				w.Align()
				m.align()
				l = append(l, step{0, -1})
			case n > 32:
				if w.Put(x, n) != api.ErrArg {
					t.Fatal("taken", x, n)
				}
			default:
				put(t, w, x, n)
				m.put(x, n)
				l = append(l, step{x, n})
			}
		}
		hasBits(t, w, len(m.l), m.bytes()...)
		r := bits.Read(w.Bytes(), high)
		for _, x := range l {
			if x.n < 0 {
				r.Align()
			} else if got, e := r.Get(x.n); got != x.x || e != api.OK {
				t.Fatalf("seed %d: got %d, %v, want %d of %d bits", seed, got, e, x.x, x.n)
			}
		}
		if r.At() != w.Len() || r.Left() != (8-w.Len()%8)%8 {
			t.Fatalf("seed %d: at %d, left %d, of %d bits", seed, r.At(), r.Left(), w.Len())
		}
		if got, e := r.Get(r.Left()); got != 0 || e != api.OK {
			t.Fatalf("seed %d: %d behind the last bit", seed, got)
		}
	}
}

func TestOtherWidthsGetTheSameBits(t *testing.T) { // P1.5: what is put in one width is got in others
	for seed := range uint64(100) {
		rnd := rand.New(rand.NewPCG(seed, 2))
		high := seed%2 == 0
		w := bits.New(high)
		for range 20 {
			n := rnd.IntN(33)
			put(t, w, rnd.Uint32()&greatest(n), n)
		}
		b := w.Bytes()
		r, v := bits.Read(b, high), bits.New(high)
		for r.Left() > 0 {
			n := min(rnd.IntN(33), r.Left())
			x, e := r.Get(n)
			if e != api.OK {
				t.Fatal(e)
			}
			put(t, v, x, n)
		}
		if !bytes.Equal(b, v.Bytes()) {
			t.Fatalf("seed %d: %v, want %v", seed, v.Bytes(), b)
		}
	}
}

func TestSingleBitsFromTheOtherEnd(t *testing.T) { // P1.5: bytes turned round
	rnd := rand.New(rand.NewPCG(3, 3))
	up, down := bits.New(true), bits.New(false)
	for range 203 {
		x := rnd.Uint32() & 1
		put(t, up, x, 1)
		put(t, down, x, 1)
	}
	b, c := up.Bytes(), down.Bytes()
	if len(b) != 26 || len(c) != 26 {
		t.Fatal(len(b), len(c))
	}
	for i, x := range b {
		turned := byte(0)
		for k := range 8 {
			turned |= x >> k & 1 << (7 - k)
		}
		if turned != c[i] {
			t.Errorf("byte %d: %08b and %08b", i, x, c[i])
		}
	}
	q, r := bits.Read(b, true), bits.Read(c, false)
	for range 208 {
		x, _ := q.Get(1)
		if y, _ := r.Get(1); x != y {
			t.Fatal("bit", q.At())
		}
	}
}

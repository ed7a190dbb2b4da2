package adler_test

import (
	"bytes"
	"hash/adler32"
	"math"
	"math/big"
	"math/rand/v2"
	"slices"
	"testing"

	"catchword/adler"
	"catchword/api"
)

const base = 65521

// plain is a sum by the chapter's words alone.
func plain(b []byte) uint32 {
	a, all := 1, 0
	for _, x := range b {
		a = (a + int(x)) % base
		all = (all + a) % base
	}
	return uint32(65536*all + a)
}

// of is the sum of two halves.
func of(high, low uint32) uint32 { return high<<16 | low }

// text is bytes that look as if they were drawn.
func text(seed uint64, n int) []byte {
	rnd := rand.New(rand.NewPCG(seed, 3))
	b := make([]byte, n)
	for i := range b {
		b[i] = byte(rnd.Uint32())
	}
	return b
}

// row is a byte n times.
func row(x byte, n int) []byte { return bytes.Repeat([]byte{x}, n) }

// around are bytes at which a half comes to 65520, and those at which it goes around.
func around() [][]byte {
	rows := row(255, 256)
	return [][]byte{
		append(slices.Clone(rows), 238), append(slices.Clone(rows), 239), append(slices.Clone(rows), 240), append(slices.Clone(rows), 241),
		row(0, base-2), row(0, base-1), row(0, base), row(0, base+1),
		row(1, 360), row(1, 361), row(1, 362), row(255, 21), row(255, 22), row(255, 23),
	}
}

// texts are bytes of many kinds.
func texts() [][]byte {
	l := append(around(), nil, []byte{}, []byte{0}, []byte{1}, []byte{255}, []byte{0, 0, 0, 0}, []byte("a"), []byte("abc"), []byte("Wikipedia"))
	for i, n := range []int{2, 3, 100, 5551, 5552, 5553, 65520, 65521, 65522, 200000} {
		l = append(l, text(uint64(i), n), row(255, n), row(0, n))
	}
	return l
}

// is asks for a sum.
func is(t *testing.T, what string, got, want uint32) {
	t.Helper()
	if got != want {
		t.Errorf("%s: %08x, want %08x", what, got, want)
	}
}

func TestSumOfKnownTexts(t *testing.T) { // P3.1, and the chapter's examples
	is(t, "Wikipedia", adler.Sum([]byte("Wikipedia")), 300286872)
	is(t, "nil", adler.Sum(nil), 1)
	is(t, "no bytes", adler.Sum([]byte{}), 1)
	is(t, "a", adler.Sum([]byte("a")), 0x00620062)
	is(t, "abc", adler.Sum([]byte("abc")), 0x024d0127)
	is(t, "message digest", adler.Sum([]byte("message digest")), 0x29750586)
	is(t, "a 0", adler.Sum([]byte{0}), of(1, 1))
	is(t, "a 255", adler.Sum([]byte{255}), of(256, 256))
}

func TestSumWhereHalvesGoAround(t *testing.T) { // P3.1: at 65520 and 65521
	rows := row(255, 256)
	for _, x := range []struct {
		last byte
		low  uint32
	}{{238, 65519}, {239, 65520}, {240, 0}, {241, 1}, {255, 15}} {
		is(t, "the low half", adler.Sum(append(slices.Clone(rows), x.last))&65535, x.low)
	}
	is(t, "the high half 65519", adler.Sum(row(0, base-2)), of(65519, 1))
	is(t, "the high half 65520", adler.Sum(row(0, base-1)), of(65520, 1))
	is(t, "the high half 0", adler.Sum(row(0, base)), of(0, 1))
	is(t, "the high half 1", adler.Sum(row(0, base+1)), of(1, 1))
	is(t, "the high half 0 once more", adler.Sum(row(0, 7*base)), of(0, 1))
	// A low half of 0 adds nothing to the high one.
	b := append(slices.Clone(rows), 240)
	is(t, "behind a low half of 0", adler.Sum(append(b, row(0, 99)...)), adler.Sum(b))
}

func TestSumAgainstThePlainWay(t *testing.T) { // P3.1
	for _, b := range texts() {
		is(t, "the plain way", adler.Sum(b), plain(b))
		is(t, "the library's", adler.Sum(b), adler32.Checksum(b))
	}
	for n := range 700 {
		b := text(uint64(n), n)
		is(t, "short texts", adler.Sum(b), plain(b))
	}
}

func TestSumOfManyBytes(t *testing.T) { // P3.1: nothing goes around unseen
	for _, n := range []int{1<<20 - 1, 1 << 20, 1<<20 + 1, 3<<20 + 7, api.MaxData} {
		for _, x := range []byte{0, 1, 254, 255} {
			b := row(x, n)
			is(t, "one byte over and over", adler.Sum(b), adler32.Checksum(b))
		}
	}
}

func TestSumChangesNoList(t *testing.T) { // P3.1 by rule R3
	room := []byte("Wikipedia")
	is(t, "a piece", adler.Sum(room[:4]), plain([]byte("Wiki")))
	is(t, "again", adler.Sum(room[:4]), plain([]byte("Wiki")))
	if string(room) != "Wikipedia" {
		t.Errorf("%q", room)
	}
}

// joins asks for two sums' one.
func joins(t *testing.T, x, y uint32, n int, want uint32, e api.Errno) {
	t.Helper()
	if z, got := adler.Join(x, y, n); z != want || got != e {
		t.Errorf("Join(%08x, %08x, %d): %08x, %v, want %08x, %v", x, y, n, z, got, want, e)
	}
}

func TestJoinOfTexts(t *testing.T) { // P3.1
	joins(t, plain([]byte("Wiki")), plain([]byte("pedia")), 5, 300286872, api.OK)
	for _, b := range texts() {
		x := plain(b)
		joins(t, x, 1, 0, x, api.OK)
		joins(t, 1, x, len(b), x, api.OK)
		for _, n := range []int{1, 2, 255, len(b) / 2, len(b) - 1} {
			if n >= 0 && n <= len(b) {
				joins(t, plain(b[:n]), plain(b[n:]), len(b)-n, x, api.OK)
			}
		}
	}
	for _, ahead := range around() {
		for _, behind := range around() {
			joins(t, plain(ahead), plain(behind), len(behind), plain(append(slices.Clone(ahead), behind...)), api.OK)
		}
	}
}

func TestJoinFarAbove65521(t *testing.T) { // P3.1: n is not counted round by round
	for _, n := range []int{base - 1, base, base + 1, 2*base - 1, 2 * base, 5*base + 3, 300000} {
		ahead, behind := text(9, 77), row(3, n)
		joins(t, plain(ahead), plain(behind), n, plain(append(ahead, behind...)), api.OK)
	}
	x, y := of(7, 9), of(11, 13)
	for _, n := range []int{0, 1, 5, base - 1} {
		want, _ := adler.Join(x, y, n)
		for _, k := range []int{1, 2, 1 << 16, 1 << 31, math.MaxInt/base - 1} {
			joins(t, x, y, n+k*base, want, api.OK)
		}
	}
}

// byBig is what Join answers, in numbers that are never too great.
func byBig(x, y uint32, n int) uint32 {
	mod := func(terms ...int) *big.Int {
		sum := new(big.Int)
		for _, k := range terms {
			sum.Add(sum, big.NewInt(int64(k)))
		}
		return sum.Mod(sum, big.NewInt(base))
	}
	low := mod(int(x&65535), int(y&65535), -1)
	more := mod(int(x&65535), -1)
	more.Mul(more, big.NewInt(int64(n)))
	more.Mod(more, big.NewInt(base))
	high := mod(int(x>>16), int(y>>16), int(more.Int64()))
	return of(uint32(high.Int64()), uint32(low.Int64()))
}

func TestJoinOfAnyHalves(t *testing.T) { // P3.1: those at the ends, and any n
	halves := []uint32{0, 1, 2, 255, 32760, 32761, 65519, 65520}
	for _, n := range []int{0, 1, 2, 65520, 65521, 65522, 1<<31 - 1, 1 << 31, 1 << 47, math.MaxInt - 1, math.MaxInt} {
		for _, a := range halves {
			for _, b := range halves {
				for _, c := range halves {
					for _, d := range halves {
						x, y := of(a, b), of(c, d)
						joins(t, x, y, n, byBig(x, y, n), api.OK)
					}
				}
			}
		}
	}
	rnd := rand.New(rand.NewPCG(1, 3))
	for range 5000 {
		x, y := of(rnd.Uint32N(base), rnd.Uint32N(base)), of(rnd.Uint32N(base), rnd.Uint32N(base))
		n := rnd.Int() >> rnd.IntN(62)
		joins(t, x, y, n, byBig(x, y, n), api.OK)
	}
}

func TestJoinOfWhatMayNotBe(t *testing.T) { // P3.1
	for _, n := range []int{-1, -2, -base, math.MinInt} {
		joins(t, 1, 1, n, 0, api.ErrArg)
		joins(t, of(7, 9), of(11, 13), n, 0, api.ErrArg)
		joins(t, math.MaxUint32, math.MaxUint32, n, 0, api.ErrArg)
	}
	for _, bad := range []uint32{of(0, 65521), of(0, 65522), of(0, 65535), of(65520, 65521), of(65521, 0), of(65521, 1), of(65522, 65520), of(65535, 0), of(65521, 65521), math.MaxUint32} {
		for _, n := range []int{0, 1, 65521, math.MaxInt} {
			for _, good := range []uint32{0, 1, of(65520, 65520)} {
				joins(t, bad, good, n, 0, api.ErrArg)
				joins(t, good, bad, n, 0, api.ErrArg)
			}
			joins(t, bad, bad, n, 0, api.ErrArg)
		}
	}
	joins(t, of(65520, 65520), of(65520, 65520), 0, of(65519, 65518), api.OK)
	joins(t, 0, 0, 1, of(65520, 65520), api.OK)
}

// holds asks for what a Sum32 says.
func holds(t *testing.T, s *adler.Sum32, b []byte) {
	t.Helper()
	for range 2 {
		is(t, "Value", s.Value(), plain(b))
		if s.Len() != len(b) {
			t.Errorf("Len: %d, want %d", s.Len(), len(b))
		}
	}
}

func TestSum32(t *testing.T) { // P3.2
	var s adler.Sum32
	holds(t, &s, nil)
	s.Add([]byte("Wiki"))
	holds(t, &s, []byte("Wiki"))
	s.Add([]byte("pe"), []byte("dia"))
	holds(t, &s, []byte("Wikipedia"))
	is(t, "Wikipedia", s.Value(), 300286872)
	s.Add([]byte{0})
	holds(t, &s, []byte("Wikipedia\x00"))
	s.Add([]byte("c"), []byte("b"), []byte("a"))
	holds(t, &s, []byte("Wikipedia\x00cba"))
	holds(t, new(adler.Sum32), nil)
}

func TestSum32OfNoBytes(t *testing.T) { // P3.2: no parts, and parts that are nil or empty
	var s adler.Sum32
	nothing := func(b []byte) {
		t.Helper()
		for _, parts := range [][][]byte{nil, {}, {nil}, {{}}, {nil, {}, nil}} {
			s.Add(parts...)
			holds(t, &s, b)
		}
		s.Add()
		s.Add(nil)
		s.Add(nil...)
		s.Add(nil, nil)
		holds(t, &s, b)
	}
	nothing(nil)
	s.Add(nil, []byte("ab"), nil, []byte{}, []byte("c"), []byte{})
	holds(t, &s, []byte("abc"))
	nothing([]byte("abc"))
}

func TestNilSum32(t *testing.T) { // P3.2
	var s *adler.Sum32
	for range 2 {
		if s.Value() != 1 || s.Len() != 0 {
			t.Error(s.Value(), s.Len())
		}
		s.Add()
		s.Add(nil)
		s.Add([]byte("Wiki"), []byte("pedia"))
	}
}

func TestSum32WhereHalvesGoAround(t *testing.T) { // P3.2: within a part, and between two
	for _, b := range around() {
		var whole, ones adler.Sum32
		whole.Add(b)
		holds(t, &whole, b)
		for i := range b {
			ones.Add(b[i : i+1])
		}
		holds(t, &ones, b)
		for _, x := range []byte{0, 1, 255} {
			whole.Add([]byte{x})
			ones.Add([]byte{x})
			b = append(b, x)
			holds(t, &whole, b)
			holds(t, &ones, b)
		}
	}
}

func TestSum32KeepsNoList(t *testing.T) { // P3.2 by rule R3
	var s adler.Sum32
	room := []byte("Wikipedia!!")
	parts := [][]byte{room[:4], room[4:9]}
	s.Add(parts...)
	if string(room) != "Wikipedia!!" || len(parts) != 2 || string(parts[0]) != "Wiki" || string(parts[1]) != "pedia" {
		t.Errorf("%q", parts)
	}
	clear(room)
	clear(parts)
	holds(t, &s, []byte("Wikipedia"))
	s.Add([]byte("s"))
	holds(t, &s, []byte("Wikipedias"))
}

func TestSum32sAreApart(t *testing.T) { // P3.2 by rule R4: one that was assigned to another one, too
	var q, r adler.Sum32
	q.Add([]byte("abc"))
	holds(t, &r, nil)
	s := q
	s.Add([]byte("d"))
	q.Add([]byte("xyz"))
	holds(t, &q, []byte("abcxyz"))
	holds(t, &r, nil)
	holds(t, &s, []byte("abcd"))
}

func TestBytes(t *testing.T) { // P3.3
	for _, x := range []struct {
		x uint32
		b []byte
	}{
		{0, []byte{0, 0, 0, 0}}, {1, []byte{0, 0, 0, 1}}, {256, []byte{0, 0, 1, 0}}, {65536, []byte{0, 1, 0, 0}}, {1 << 24, []byte{1, 0, 0, 0}},
		{0x01020304, []byte{1, 2, 3, 4}}, {0x00008000, []byte{0, 0, 128, 0}}, {300286872, []byte{0x11, 0xe6, 0x03, 0x98}},
		{0x80000000, []byte{128, 0, 0, 0}}, {of(65521, 65535), []byte{255, 241, 255, 255}}, {math.MaxUint32, []byte{255, 255, 255, 255}},
	} {
		if b := adler.Bytes(x.x); !bytes.Equal(b, x.b) {
			t.Errorf("Bytes(%08x): %v, want %v", x.x, b, x.b)
		}
		if y, e := adler.Value(x.b); y != x.x || e != api.OK {
			t.Errorf("Value(%v): %08x, %v, want %08x", x.b, y, e, x.x)
		}
	}
}

func TestValueOfBytes(t *testing.T) { // P3.3: there and back
	rnd := rand.New(rand.NewPCG(2, 3))
	for range 2000 {
		x := rnd.Uint32() >> rnd.IntN(32)
		b := adler.Bytes(x)
		if y, e := adler.Value(b); len(b) != 4 || y != x || e != api.OK {
			t.Fatalf("%08x: %v, %08x, %v", x, b, y, e)
		}
	}
}

func TestValueOfOtherThanFourBytes(t *testing.T) { // P3.3
	for n := range 40 {
		if n == 4 {
			continue
		}
		for _, b := range [][]byte{row(0, n), row(255, n), text(1, n)} {
			if x, e := adler.Value(b); x != 0 || e != api.ErrForm {
				t.Errorf("Value(%v): %08x, %v", b, x, e)
			}
		}
	}
	if x, e := adler.Value(nil); x != 0 || e != api.ErrForm {
		t.Errorf("Value(nil): %08x, %v", x, e)
	}
	if x, e := adler.Value(make([]byte, 3, 9)); x != 0 || e != api.ErrForm {
		t.Errorf("spare room: %08x, %v", x, e)
	}
}

func TestBytesAreNobodyElses(t *testing.T) { // P3.3 by rule R3
	b, c := adler.Bytes(0x01020304), adler.Bytes(0x01020304)
	b = b[:cap(b)]
	clear(b)
	if !bytes.Equal(c, []byte{1, 2, 3, 4}) || !bytes.Equal(adler.Bytes(0x01020304), c) {
		t.Error(c)
	}
	if _, e := adler.Value(c); e != api.OK || !bytes.Equal(c, []byte{1, 2, 3, 4}) {
		t.Error(e, c)
	}
}

func TestHoweverBytesComeTogether(t *testing.T) { // P3.4: as parts, by calls, by Join from the left and from the right
	for seed := range uint64(150) {
		rnd := rand.New(rand.NewPCG(seed, 4))
		b := text(seed, rnd.IntN(3000))
		if seed%3 == 0 {
			b = row(255, len(b))
		}
		want := plain(b)
		var parts [][]byte
		for at := 0; at < len(b); {
			n := min(rnd.IntN(400), len(b)-at)
			parts = append(parts, b[at:at+n])
			at += n
		}
		var once, calls adler.Sum32
		once.Add(parts...)
		left, right := uint32(1), uint32(1)
		behind := 0
		for i, x := range parts {
			calls.Add(x)
			left, _ = adler.Join(left, adler.Sum(x), len(x))
			last := parts[len(parts)-1-i]
			right, _ = adler.Join(adler.Sum(last), right, behind)
			behind += len(last)
		}
		is(t, "whole", adler.Sum(b), want)
		is(t, "parts", once.Value(), want)
		is(t, "calls", calls.Value(), want)
		is(t, "from the left", left, want)
		is(t, "from the right", right, want)
		if once.Len() != len(b) || calls.Len() != len(b) {
			t.Error(once.Len(), calls.Len(), len(b))
		}
	}
}

func TestOneByteChanged(t *testing.T) { // P3.4
	for _, b := range [][]byte{{0}, {255}, []byte("Wikipedia"), row(0, 300), row(255, 300), text(5, 2000), row(0, base)} {
		want := adler.Sum(b)
		for i := 0; i < len(b); i += 1 + len(b)/40 {
			old := b[i]
			for x := range 256 {
				if b[i] = byte(x); adler.Sum(b) == want != (b[i] == old) {
					t.Fatalf("byte %d of %d, %d for %d", i, len(b), x, old)
				}
			}
			b[i] = old
		}
	}
}

package lz_test

import (
	"bytes"
	"math/rand/v2"
	"slices"
	"testing"

	"catchword/api"
	"catchword/lz"
)

// suits asks for bytes' tokens, holds them against the chapter's words, and answers how many they are.
func suits(t *testing.T, b []byte) int {
	t.Helper()
	l := lz.Tokens(b)
	back, e := expand(l, len(b))
	if e != api.OK || back != string(b) {
		t.Fatalf("Tokens(%.40q), of %d: %v, %.40q", b, len(b), e, back)
	}
	if e := lz.Check(l); e != api.OK {
		t.Fatalf("Tokens(%.40q), of %d: Check: %v", b, len(b), e)
	}
	if out, e := lz.Expand(l, len(b)); e != api.OK || !bytes.Equal(out, b) {
		t.Fatalf("Tokens(%.40q), of %d: Expand: %v, %.40q", b, len(b), e, out)
	}
	if mustShrink(b) && len(l) >= len(b) {
		t.Fatalf("Tokens(%.40q), of %d: as many as %d", b, len(b), len(l))
	}
	return len(l)
}

func TestTokensOfFewBytes(t *testing.T) { // P6.2: none, one, two and three
	for _, s := range []string{"", "a", "ab", "aa", "abc", "aaa", "\x00", "\x00\x00\x00"} {
		if n := suits(t, []byte(s)); n != len(s) {
			t.Errorf("%q: %d", s, n)
		}
	}
	if n := suits(t, nil); n != 0 {
		t.Error(n)
	}
}

func TestTokensOfAllShortTexts(t *testing.T) { // P6.2
	for letters, longest := range map[int]int{2: 13, 3: 8} {
		for n := range longest + 1 {
			b := make([]byte, n)
			for left := true; left; {
				suits(t, b)
				left = false
				for i := range b {
					b[i] = (b[i] + 1) % byte(letters)
					if b[i] > 0 {
						left = true
						break
					}
				}
			}
		}
	}
}

func TestTokensOfAlikeBytes(t *testing.T) { // P6.2: at the beginning, within and at the end of others, and alone
	around := distinct(2, 600)
	for _, n := range []int{1, 2, 3, 4, 5, 6, 7, 8, 9, 100, 257, 258, 259, 260, 261, 262, 263, 516, 517, 518, 519, 1000} {
		for _, x := range []byte{0, 'a', 255} {
			alike := bytes.Repeat([]byte{x}, n)
			suits(t, alike)
			for _, at := range []int{0, 1, 2, 3, 5, 300, 599, 600} {
				b := slices.Concat(around[:at], alike, around[at:])
				if got := suits(t, b); n >= 6 && got >= len(b) {
					t.Error(n, x, at, got)
				}
			}
		}
	}
}

func TestTokensOfAlikeBytesFarBehind(t *testing.T) { // P6.2: where the places of before are gone
	around := distinct(3, 100000)
	for _, at := range []int{32765, 32767, 32768, 32769, 65533, 65535, 65536, 65537, 99999, 100000} {
		suits(t, slices.Concat(around[:at], []byte("zzzzzz"), around[at:]))
	}
}

func TestTokensOfTwiceTheSame(t *testing.T) { // P6.2: of 12 bytes up to 65536, and some more
	all := distinct(4, 32770)
	for half := range 700 {
		suits(t, slices.Concat(all[:half], all[:half]))
	}
	for _, half := range []int{16383, 16384, 16385, 32766, 32767, 32768, 32769, 32770} {
		b := slices.Concat(all[:half], all[:half])
		if mustShrink(b) != (half <= 32768) {
			t.Error(half)
		}
		suits(t, b)
	}
}

func TestTokensOfTwiceTheSameOfFewLetters(t *testing.T) { // P6.2: where there is much else that repeats
	r := rand.New(rand.NewPCG(6, 2))
	for range 3000 {
		x := noise(r, 6+r.IntN(400)>>r.IntN(7), 1+r.IntN(40))
		suits(t, slices.Concat(x, x))
	}
	for _, of := range []int{2, 3, 16, 40} {
		x := noise(r, 32768, of)
		suits(t, slices.Concat(x, x))
	}
}

func TestTokensFromJustAsFarAsMayBe(t *testing.T) { // P6.2: from 32768 ahead, and from 32769
	all := distinct(5, 34000)
	for _, far := range []int{32766, 32767, 32768, 32769, 32770} {
		for _, length := range []int{3, 4, 100, 257, 258, 259, 600} {
			b := slices.Concat(all[:far], all[:length])
			n := suits(t, b)
			if far > 32768 && n != len(b) {
				t.Errorf("%d bytes from %d ahead: %d tokens of %d bytes", length, far, n, len(b))
			}
			suits(t, slices.Concat(all[33000:33100], b, all[33100:33200]))
		}
	}
}

func TestTokensWithoutRepetition(t *testing.T) { // P6.2: each is a byte
	for _, n := range []int{4, 5, 6, 100, 32767, 32768, 32769, 70000} {
		b := distinct(uint64(n), n)
		if got := suits(t, b); got != n {
			t.Error(n, got)
		}
	}
	text := []byte("no three follow")
	if got := suits(t, text); got != len(text) {
		t.Error(got)
	}
}

func TestTokensOfManyTexts(t *testing.T) { // P6.2: few letters and many, periods, and parts that come again
	r := rand.New(rand.NewPCG(6, 3))
	for range 1500 {
		b := noise(r, r.IntN(2000)>>r.IntN(8), 1+r.IntN(256)>>r.IntN(9))
		for range r.IntN(6) {
			from := r.IntN(len(b) + 1)
			part := b[from : from+r.IntN(len(b)-from+1)]
			b = slices.Concat(b, part, noise(r, r.IntN(4), 256))
			if len(b) > 90000 {
				break
			}
		}
		suits(t, b)
	}
	suits(t, bytes.Repeat(noise(r, 40000, 256), 3))
	suits(t, bytes.Repeat(noise(r, 30000, 256), 4))
	suits(t, bytes.Repeat([]byte("0123456789"), 9000))
}

// holds is suits of so many bytes that the plain way would take long.
func holds(t *testing.T, b []byte) []lz.Token {
	t.Helper()
	l := lz.Tokens(b)
	if out, e := lz.Expand(l, api.MaxData); e != api.OK || !bytes.Equal(out, b) {
		t.Error(len(b), len(l), len(out), e)
	}
	return l
}

func TestTokensOfMaxData(t *testing.T) { // P6.2: as many bytes as may be, and one more
	r := rand.New(rand.NewPCG(6, 4))
	for _, b := range [][]byte{make([]byte, api.MaxData), bytes.Repeat(noise(r, 1<<15, 256), 1<<9), noise(r, api.MaxData, 2), noise(r, api.MaxData, 256)} {
		holds(t, b)
	}
	alike := make([]byte, api.MaxData+1)
	if l := holds(t, alike[:api.MaxData-1]); len(l) >= api.MaxData-1 {
		t.Error(len(l))
	}
	if l := holds(t, alike[:api.MaxData]); len(l) >= api.MaxData {
		t.Error(len(l))
	}
	if l := lz.Tokens(alike); len(l) != 0 {
		t.Error(len(l))
	}
	if l := lz.Tokens(make([]byte, api.MaxData+2000)); len(l) != 0 {
		t.Error(len(l))
	}
}

func TestTokensOfWhatLooksAlikeNearlyEverywhere(t *testing.T) { // P6.2 by rule R1: each place has thousands that begin like it
	for _, period := range []int{3, 4, 5, 100, 256, 300} {
		r := rand.New(rand.NewPCG(6, uint64(period)))
		b := make([]byte, 1<<20)
		for i := period; i < len(b); i += period {
			b[i] = byte(r.IntN(256))
		}
		if l := holds(t, b); len(l) >= len(b) {
			t.Error(period, len(l))
		}
	}
}

func TestTokensNeitherChangeNorShare(t *testing.T) { // P6.2 by rules R3 and R4
	room := []byte("abcabcabcabcxyzabcabc")
	kept := string(room)
	b := room[:12]
	x := lz.Tokens(b)
	y := lz.Tokens(slices.Clone(b))
	if !slices.Equal(x, y) || string(room) != kept {
		t.Errorf("%v, %v, %q", x, y, room)
	}
	for i := range x[:cap(x)] {
		x[:cap(x)][i] = again(9, 9)
	}
	room[0] = 'z'
	if out, e := lz.Expand(y, 12); string(out) != "abcabcabcabc" || e != api.OK {
		t.Errorf("%q, %v", out, e)
	}
	room[0] = 'a'
	if z := lz.Tokens(b); !slices.Equal(y, z) {
		t.Errorf("%v, %v", y, z)
	}
}

package lz_test

import (
	"bytes"
	"math"
	"math/rand/v2"
	"slices"
	"strings"
	"testing"

	"catchword/api"
	"catchword/lz"
)

func TestExpandOfExamples(t *testing.T) { // P6.1, and the chapter's example
	tells(t, []lz.Token{{Byte: 97}, {Length: 4, Far: 1}}, 5, "aaaaa")
	tells(t, single("abc"), 3, "abc")
	tells(t, append(single("abc"), again(3, 3)), 6, "abcabc")
	tells(t, append(single("ab"), again(5, 2)), 7, "abababa")
	tells(t, joined(single("abcd"), []lz.Token{again(3, 4), again(3, 2)}, single("x"), []lz.Token{again(4, 1)}), 15, "abcdabcbcbxxxxx")
	tells(t, single("\x00\xff\x00"), 3, "\x00\xff\x00")
}

func TestExpandOfNoTokens(t *testing.T) { // P6.1: no list and an empty one are one
	for _, l := range [][]lz.Token{nil, {}} {
		for _, most := range []int{0, 1, api.MaxData} {
			tells(t, l, most, "")
		}
		for _, most := range []int{-1, math.MinInt, api.MaxData + 1, math.MaxInt} {
			refuses(t, l, most, api.ErrArg)
		}
		checks(t, l, api.OK)
	}
}

func TestMost(t *testing.T) { // P6.1: below 0, 0, just the bytes, one less, MaxData and one more
	for _, l := range [][]lz.Token{single("abcabcabc"), append(single("abc"), again(6, 3)), append(single("abcabc"), again(3, 3)), joined(single("abc"), []lz.Token{again(5, 3)}, single("c"))} {
		for _, most := range []int{9, 10, 1000, api.MaxData - 1, api.MaxData} {
			tells(t, l, most, "abcabcabc")
		}
		for most := range 9 {
			refuses(t, l, most, api.ErrLong)
		}
		checks(t, l, api.OK)
	}
	for _, l := range [][]lz.Token{single("a"), {again(3, 1)}, {again(2, 1)}, single(strings.Repeat("a", 9))} {
		for _, most := range []int{-1, -2, math.MinInt, math.MinInt + 1, api.MaxData + 1, 1 << 31, 1 << 32, 1<<32 + 5, math.MaxInt} {
			refuses(t, l, most, api.ErrArg)
		}
	}
}

func TestLengths(t *testing.T) { // P6.1: -1, 0, 1, 2, 3, 258, 259 and others
	ahead := single("abcdef")
	for length := 3; length <= 258; length++ {
		want := strings.Repeat("abcdef", 44)[:6+length]
		tells(t, append(ahead, again(length, 6)), 6+length, want)
		refuses(t, append(ahead, again(length, 6)), 5+length, api.ErrLong)
		checks(t, append(ahead, again(length, 6)), api.OK)
	}
	for _, length := range []int{-1, 1, 2, 259, 260, -3, -258, 256 + 258, 1<<16 + 3, 1<<32 + 3, math.MinInt, math.MinInt + 3, math.MaxInt} {
		wrong(t, append(ahead, again(length, 6)), api.ErrArg)
		wrong(t, append(ahead, lz.Token{Length: length}), api.ErrArg)
		wrong(t, append(ahead, lz.Token{Length: length, Byte: 'x'}), api.ErrArg)
	}
	tells(t, append(ahead, lz.Token{}), 7, "abcdef\x00")
	wrong(t, append(ahead, again(0, 6)), api.ErrArg)
}

func TestFars(t *testing.T) { // P6.1: 0, 1, just as many as there are, one more, 32768 and 32769
	b := distinct(1, 40000)
	for _, n := range []int{1, 2, 3, 300, 32767, 32768, 32769, 40000} {
		ahead := single(string(b[:n]))
		for _, far := range []int{1, 2, 3, 257, 258, 300, 301, 32766, 32767, 32768} {
			l := append(slices.Clip(ahead), again(258, far))
			if far > n {
				wrong(t, l, api.ErrFar)
				continue
			}
			want := slices.Clone(b[:n])
			for range 258 {
				want = append(want, want[len(want)-far])
			}
			tells(t, l, n+258, string(want))
			checks(t, l, api.OK)
		}
		for _, far := range []int{0, -1, -n, 32769, 32770, 40000, 40001, 65536, 65537, 1<<32 + 1, math.MinInt, math.MaxInt} {
			wrong(t, append(slices.Clip(ahead), again(3, far)), api.ErrArg)
		}
		if n < 32768 {
			wrong(t, append(slices.Clip(ahead), again(3, n+1)), api.ErrFar)
			wrong(t, append(slices.Clip(ahead), again(258, 32768)), api.ErrFar)
		}
	}
	for _, far := range []int{1, 2, 32768} {
		wrong(t, []lz.Token{again(3, far)}, api.ErrFar)
	}
}

func TestFarOfAByte(t *testing.T) { // P6.1: it is 0
	for _, far := range []int{-1, 1, 2, 3, 32768, 32769, 65536, math.MinInt, math.MaxInt} {
		wrong(t, []lz.Token{{Byte: 'a', Far: far}}, api.ErrArg)
		wrong(t, append(single("abc"), lz.Token{Byte: 'a', Far: far}), api.ErrArg)
		wrong(t, append(single("abc"), lz.Token{Far: far}), api.ErrArg)
	}
}

func TestByteOfARepetition(t *testing.T) { // P6.1: it is 0
	for _, x := range []byte{1, 'a', 128, 255} {
		wrong(t, append(single("aaa"), lz.Token{Byte: x, Length: 3, Far: 1}), api.ErrArg)
		wrong(t, append(single("aaa"), lz.Token{Byte: x, Length: 258, Far: 3}), api.ErrArg)
	}
}

func TestTokensWithMoreThanOneError(t *testing.T) { // P6.1 by rule R2: ErrArg, ErrFar, ErrLong
	ahead := single("abc")
	for _, x := range []struct {
		l lz.Token
		e api.Errno
	}{
		{lz.Token{Byte: 1, Length: 3, Far: 9}, api.ErrArg},
		{lz.Token{Length: 2, Far: 9}, api.ErrArg},
		{lz.Token{Length: 3, Far: 40000}, api.ErrArg},
		{lz.Token{Length: 259, Far: 1}, api.ErrArg},
		{lz.Token{Byte: 1, Far: 9}, api.ErrArg},
		{lz.Token{Length: -1, Far: -1}, api.ErrArg},
		{lz.Token{Length: 3, Far: 4}, api.ErrFar},
		{lz.Token{Length: 258, Far: 32768}, api.ErrFar},
		{lz.Token{Length: 3, Far: 3}, api.ErrLong},
		{lz.Token{Byte: 1}, api.ErrLong},
	} {
		refuses(t, append(ahead, x.l), 3, x.e)
		refuses(t, append(ahead, x.l), -1, api.ErrArg)
	}
	tells(t, ahead, 3, "abc")
}

func TestSeveralTokensWithErrors(t *testing.T) { // P6.1: the first one's error
	bad := map[api.Errno]lz.Token{api.ErrArg: again(2, 1), api.ErrFar: again(3, 4), api.ErrLong: again(8, 1)}
	for first, x := range bad {
		for _, y := range bad {
			for _, between := range [][]lz.Token{nil, single("x"), {again(3, 1)}} {
				refuses(t, joined(single("abc"), []lz.Token{x}, between, []lz.Token{y}), 10, first)
			}
		}
	}
	refuses(t, append(single("abcd"), again(2, 1)), 3, api.ErrLong)
	refuses(t, []lz.Token{{Byte: 'a'}, {Byte: 'a', Far: 1}, {Byte: 'a'}}, 1, api.ErrArg)
}

func TestExpandMaxData(t *testing.T) { // P6.1: as many bytes as may be, and one more
	for _, n := range []int{api.MaxData - 1, api.MaxData, api.MaxData + 1, api.MaxData + 258} {
		l := many(n)
		if n > api.MaxData {
			wrong(t, l, api.ErrLong)
			continue
		}
		if b, e := lz.Expand(l, api.MaxData); len(b) != n || bytes.Count(b, []byte("m")) != n || e != api.OK {
			t.Error(n, len(b), e)
		}
		checks(t, l, api.OK)
	}
	for _, x := range []struct {
		n int
		l lz.Token
		e api.Errno
	}{
		{api.MaxData, lz.Token{Byte: 'x'}, api.ErrLong},
		{api.MaxData, again(3, 1), api.ErrLong},
		{api.MaxData, again(2, 1), api.ErrArg},
		{api.MaxData - 1, lz.Token{Byte: 'x'}, api.OK},
		{api.MaxData - 2, again(3, 1), api.ErrLong},
		{api.MaxData - 2, again(258, 32769), api.ErrArg},
		{api.MaxData - 3, again(3, 32768), api.OK},
	} {
		l := append(many(x.n), x.l)
		if b, e := lz.Expand(l, api.MaxData); e != x.e || (len(b) == api.MaxData) != (e == api.OK) {
			t.Error(x, len(b), e)
		}
		checks(t, l, x.e)
	}
}

func TestRepetitionsOfTheirOwnBytes(t *testing.T) { // P6.1: a Far less than the Length
	for far := 1; far <= 40; far++ {
		for length := 3; length <= 258; length += 1 + length/9 {
			l := append(single("0123456789abcdefghijklmnopqrstuvwxyzABCDEF"), again(length, far))
			want, e := expand(l, 999)
			if e != api.OK {
				t.Fatal(l, e)
			}
			tells(t, l, 999, want)
		}
	}
}

// someToken is a token that mostly may be, behind n bytes.
func someToken(r *rand.Rand, n int) lz.Token {
	x := lz.Token{Byte: byte(r.IntN(256))}
	if n > 0 && r.IntN(3) > 0 {
		x = again(3+r.IntN(256)>>r.IntN(9), 1+r.IntN(min(n, 32768))>>r.IntN(9))
	}
	switch r.IntN(300) {
	case 0:
		x.Far = r.IntN(70000) - 1000
	case 1:
		x.Length = r.IntN(300) - 20
	case 2:
		x.Byte = byte(r.IntN(3))
	case 3:
		x.Far = n + r.IntN(2)
	}
	return x
}

func TestExpandAgainstTheWords(t *testing.T) { // P6.1: tokens of all kinds, and a most that is about what comes
	r := rand.New(rand.NewPCG(6, 1))
	told := map[api.Errno]int{}
	for range 20000 {
		var l []lz.Token
		n := 0
		for range r.IntN(60) {
			l = append(l, someToken(r, n))
			n += max(1, min(258, l[len(l)-1].Length))
		}
		most := n + r.IntN(12) - 3
		want, e := expand(l, most)
		if b, f := lz.Expand(l, most); string(b) != want || f != e {
			t.Fatalf("Expand(%v, %d): %q, %v; want %q, %v", l, most, b, f, want, e)
		}
		told[e]++
		_, e = expand(l, api.MaxData)
		checks(t, l, e)
	}
	for _, e := range []api.Errno{api.OK, api.ErrArg, api.ErrFar, api.ErrLong} {
		if told[e] < 100 {
			t.Error(e, told[e])
		}
	}
}

func TestExpandNeitherChangesNorShares(t *testing.T) { // P6.1 by rules R3 and R4
	l := append(make([]lz.Token, 0, 9), append(single("abc"), again(5, 2))...)
	room := l[:cap(l)]
	for i := len(l); i < len(room); i++ {
		room[i] = again(7, i)
	}
	kept := slices.Clone(room)
	a, _ := lz.Expand(l, 8)
	b, _ := lz.Expand(l, 8)
	lz.Check(l)
	lz.Expand(l, 7)
	if !slices.Equal(room, kept) {
		t.Error(room)
	}
	for i := range a[:cap(a)] {
		a[:cap(a)][i] = '!'
	}
	l[0].Byte = 'x'
	if string(b) != "abcbcbcb" {
		t.Errorf("%q", b)
	}
	tells(t, l, 8, "xbcbcbcb")
}

// matches asks for how many bytes repeat.
func matches(t *testing.T, b []byte, at, far, most, want int) {
	t.Helper()
	if n := lz.Match(b, at, far, most); n != want {
		t.Errorf("Match(%.40q, %d, %d, %d): %d; want %d", b, at, far, most, n, want)
	}
}

func TestMatchOfExamples(t *testing.T) { // P6.3
	matches(t, []byte("abcabd"), 3, 3, 9, 2)
	matches(t, []byte("abcabc"), 3, 3, 9, 3)
	matches(t, []byte("abcabc"), 3, 3, 2, 2)
	matches(t, []byte("aaaaaa"), 1, 1, 9, 5)
	matches(t, []byte("aaaaaa"), 4, 4, 9, 2)
	matches(t, []byte("abababx"), 2, 2, 9, 4)
	matches(t, []byte("xabxab"), 4, 3, 9, 2)
	matches(t, []byte("abxab"), 3, 2, 9, 0)
}

func TestMatchEdges(t *testing.T) { // P6.3: places, Fars and mosts at the edges, and far beyond
	b := []byte("aaaaa")
	for _, most := range []int{5, 6, 258, 259, 1 << 31, math.MaxInt} {
		for at, want := range map[int]int{-1: 0, 0: 0, 1: 4, 2: 3, 4: 1, 5: 0, 6: 0, 99: 0, 1 << 32: 0, math.MaxInt: 0, math.MinInt: 0, math.MinInt + 1: 0} {
			matches(t, b, at, 1, most, want)
		}
		for far, want := range map[int]int{-1: 0, 0: 0, 1: 2, 2: 2, 3: 2, 4: 0, 5: 0, 1<<32 + 1: 0, math.MaxInt: 0, math.MinInt: 0} {
			matches(t, b, 3, far, most, want)
		}
	}
	for most, want := range map[int]int{-1: 0, 0: 0, 1: 1, 2: 2, 3: 3, 4: 3, math.MinInt: 0, math.MaxInt: 3} {
		matches(t, b, 2, 2, most, want)
	}
	for _, at := range []int{-1, 0, 1, math.MinInt, math.MaxInt} {
		for _, far := range []int{-1, 0, 1, math.MinInt, math.MaxInt} {
			matches(t, nil, at, far, 9, 0)
			matches(t, []byte{}, at, far, 9, 0)
			matches(t, []byte("a"), at, far, 9, 0)
		}
	}
}

func TestMatchIsNotBoundAsTokensAre(t *testing.T) { // P6.3: far is only up to the place, and how many only up to most
	b := bytes.Repeat([]byte("ab"), 50000)
	for _, far := range []int{2, 32768, 32770, 49998, 50000, 70000} {
		matches(t, b, 70000, far, math.MaxInt, 30000)
		matches(t, b, 70000, far, 259, 259)
		matches(t, b, 70000, far+1, math.MaxInt, 0)
	}
	matches(t, b, 99999, 99998, 9, 1)
}

func TestMatchOfAPart(t *testing.T) { // P6.3: what lies behind the last byte is no byte
	b := []byte("abcabcabcabc")
	matches(t, b[:7], 3, 3, 99, 4)
	matches(t, b[:4], 3, 3, 99, 1)
	matches(t, b[:3], 3, 3, 99, 0)
	matches(t, b[:0], 3, 3, 99, 0)
	if string(b) != "abcabcabcabc" {
		t.Errorf("%q", b)
	}
}

func TestMatchAgainstTheWords(t *testing.T) { // P6.3: all short texts of two letters, at all places, and somewhat beyond
	for n := range 8 {
		for bits := range 1 << n {
			b := make([]byte, n)
			for i := range b {
				b[i] = 'a' + byte(bits>>i&1)
			}
			for at := -1; at <= n+1; at++ {
				for far := -1; far <= n+1; far++ {
					for most := -1; most <= n+1; most++ {
						matches(t, b, at, far, most, match(b, at, far, most))
					}
				}
			}
		}
	}
}

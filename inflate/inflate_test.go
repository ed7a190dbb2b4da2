package inflate_test

import (
	"bytes"
	"compress/flate"
	"math"
	"math/rand/v2"
	"slices"
	"strings"
	"testing"

	"catchword/api"
	"catchword/inflate"
)

// unpacks asks for bytes that must come, and how many are looked at.
func unpacks(t *testing.T, b []byte, most int, want string, n int) {
	t.Helper()
	got, at, e := inflate.Inflate(b, most)
	if string(got) != want || at != n || e != api.OK {
		t.Errorf("%.60x, %d: %.60q, %d, %v; want %.60q, %d", b, most, got, at, e, want, n)
	}
}

// refuses asks for an error, beside which there is nothing.
func refuses(t *testing.T, b []byte, most int, want api.Errno) {
	t.Helper()
	if got, n, e := inflate.Inflate(b, most); len(got) != 0 || n != 0 || e != want {
		t.Errorf("%.60x, %d: %.60q, %d, %v; want %v", b, most, got, n, e, want)
	}
}

// unpacksText and refusesText ask of a text of 0 and 1.
func unpacksText(t *testing.T, text, want string) {
	t.Helper()
	unpacks(t, pack(text), len(want), want, (len(text)+7)/8)
}

func refusesText(t *testing.T, text string, want api.Errno) {
	t.Helper()
	refuses(t, pack(text), 1000, want)
}

// lit is the fixed code of a symbol, as RFC 1951 writes it out.
func lit(symbol int) string {
	switch {
	case symbol < 144:
		return code(0b00110000+symbol, 8)
	case symbol < 256:
		return code(0b110010000+symbol-144, 9)
	case symbol < 280:
		return code(symbol-256, 7)
	}
	return code(0b11000000+symbol-280, 8)
}

// lits are the fixed codes of bytes.
func lits(s string) string {
	out := ""
	for _, x := range []byte(s) {
		out += lit(int(x))
	}
	return out
}

// closed is a last block of kind 1.
func closed(symbols string) string { return head(true, 1) + symbols + lit(256) }

// storedBlock is a block of kind 0, behind a text.
func storedBlock(ahead string, last bool, data string) string {
	t := fill(ahead+head(last, 0)) + num(len(data), 16) + num(65535-len(data), 16)
	return t + unpack([]byte(data))
}

// lengths are n of which some symbols' are x, the others 0.
func lengths(n, x int, symbols ...int) []int {
	l := make([]int, n)
	for _, s := range symbols {
		l[s] = x
	}
	return l
}

// counts are how many lengths there are of symbols and of distances, and that all 19 lengths of lengths are 5: the code of each is then its number.
func counts(symbols, distances int) string {
	return num(symbols-257, 5) + num(distances-1, 5) + num(15, 4) + strings.Repeat(num(5, 3), 19)
}

// singly tells lengths one by one, by codes that are their numbers.
func singly(l ...int) string {
	t := ""
	for _, x := range l {
		t += code(x, 5)
	}
	return t
}

// dynamic is the beginning of a block of kind 2, behind its kind, of lengths told one by one.
func dynamic(symbols, distances []int) string {
	return counts(len(symbols), len(distances)) + singly(symbols...) + singly(distances...)
}

func TestExamples(t *testing.T) { // P5.1, and the chapter's examples
	unpacks(t, []byte{3, 0}, 0, "", 2)
	unpacks(t, []byte{3, 0}, 9, "", 2)
	unpacks(t, []byte{75, 4, 0}, 1, "a", 3)
	unpacks(t, []byte{1, 3, 0, 252, 255, 'a', 'b', 'c'}, 3, "abc", 8)
	unpacks(t, []byte{0x4b, 0x4c, 0x84, 1, 0}, 10, "aaaaaaaaaa", 5)
}

func TestMost(t *testing.T) { // P5.1: below 0, 0, just the bytes, one less, MaxData and one more
	for _, b := range [][]byte{nil, {3, 0}, {75, 4, 0}, {7}} {
		for _, most := range []int{-1, -2, math.MinInt, api.MaxData + 1, 1 << 31, 1 << 32, math.MaxInt} {
			refuses(t, b, most, api.ErrArg)
		}
	}
	for _, text := range []string{closed(lits("abcabcabca")), closed(lits("abc") + lit(261) + code(2, 5)), storedBlock("", true, "abcabcabca"), head(true, 2) + dynamic(lengths(262, 3, 97, 98, 99, 261, 256), lengths(3, 1, 2)) + "000" + "001" + "010" + "100" + "0" + "011"} {
		b := pack(text)
		for _, most := range []int{10, 11, 1000, api.MaxData - 1, api.MaxData} {
			unpacks(t, b, most, "abcabcabca", len(b))
		}
		for most := range 10 {
			refuses(t, b, most, api.ErrLong)
		}
	}
}

func TestMaxData(t *testing.T) { // P5.1: as many bytes as may be, and one more
	for _, n := range []int{api.MaxData - 1, api.MaxData, api.MaxData + 1} {
		data := bytes.Repeat([]byte{'x'}, n)
		for _, level := range []int{0, 9} {
			b := packed(t, data, level)
			got, at, e := inflate.Inflate(b, api.MaxData)
			if n > api.MaxData {
				if len(got) != 0 || at != 0 || e != api.ErrLong {
					t.Error(n, level, len(got), at, e)
				}
			} else if !bytes.Equal(got, data) || at != len(b) || e != api.OK {
				t.Error(n, level, len(got), at, e)
			}
		}
	}
}

func TestNoBytes(t *testing.T) { // P5.1
	refuses(t, nil, 0, api.ErrCut)
	refuses(t, []byte{}, 9, api.ErrCut)
}

func TestKindThree(t *testing.T) { // P5.1
	for _, last := range []bool{true, false} {
		refusesText(t, head(last, 3), api.ErrForm)
		refusesText(t, head(last, 3)+closed(""), api.ErrForm)
		refusesText(t, head(false, 1)+lit(256)+head(last, 3)+closed(""), api.ErrForm)
	}
}

func TestBytesThatEndTooEarly(t *testing.T) { // P5.1: in each part of a block, at each bit
	own := counts(262, 5) + singly(lengths(97, 0)...) + singly(3) + code(16, 5) + num(0, 2) + code(17, 5) + num(7, 3) + code(18, 5) + num(127, 7) + singly(lengths(7, 0)...) + singly(3, 0, 3, 0, 0, 3) + singly(0, 0, 0, 1, 1)
	row := "000" + "001" + "010" + "011" + "000" + "101" + "0" + "110" + "1" + "1" + "100"
	unpacksText(t, head(true, 2)+own+row, "abcda"+"bcda"+"dabcdad")
	parts := []string{
		lits("abcde") + lit(256),
		lits("abcde") + lit(265) + "1" + code(4, 5) + "0" + lit(284) + num(30, 5) + code(4, 5) + "0" + lit(256),
		lits("abcdefghij") + lit(285) + code(6, 5) + num(1, 2) + lit(256),
	}
	for k := range 8 {
		ahead := head(false, 1) + strings.Repeat(lit(200), k) + lit(256)
		all := []string{
			storedBlock(ahead, true, "some bytes"), storedBlock(ahead, true, ""), ahead + head(true, 2) + own + row,
		}
		for _, x := range parts {
			all = append(all, ahead+head(true, 1)+x)
		}
		for _, text := range all {
			b := pack(text)
			want, n, e := plainly(b, 1000)
			if e != api.OK || n != len(b) {
				t.Fatal(text, n, e)
			}
			unpacks(t, b, 1000, string(want), n)
			for i := range b {
				refuses(t, b[:i], 1000, api.ErrCut)
			}
		}
	}
}

func TestStored(t *testing.T) { // P5.1: kind 0, of no bytes, of some, of 65535
	for _, n := range []int{0, 1, 2, 255, 256, 32768, 65534, 65535} {
		data := strings.Repeat("storing ", 8192)[:n]
		unpacksText(t, storedBlock("", true, data), data)
		unpacksText(t, storedBlock(storedBlock("", false, data), true, "more"), data+"more")
		unpacksText(t, storedBlock(head(false, 1)+lits("ahead")+lit(256), true, data), "ahead"+data)
		if n > 0 {
			refuses(t, pack(storedBlock("", true, data)), n-1, api.ErrLong)
		}
	}
	// The bits up to the next byte are nothing.
	b := []byte{1, 3, 0, 252, 255, 'a', 'b', 'c'}
	for x := range 32 {
		b[0] = byte(1 + 8*x)
		unpacks(t, b, 3, "abc", 8)
	}
}

func TestStoredThatIsNot(t *testing.T) { // P5.1: a turned number that is wrong, in any bit
	b := pack(storedBlock("", true, "abc"))
	for bit := range 32 {
		wrong := slices.Clone(b)
		wrong[1+bit/8] ^= 1 << (bit % 8)
		refuses(t, wrong, 100, api.ErrForm)
	}
	refuses(t, []byte{1, 3, 0, 3, 0, 'a', 'b', 'c'}, 9, api.ErrForm)
	refuses(t, []byte{1, 3, 0, 252}, 9, api.ErrCut)
	refuses(t, []byte{1, 3, 0, 251}, 9, api.ErrCut)
	refuses(t, []byte{1, 3, 0, 251, 255}, 9, api.ErrForm)
	refuses(t, []byte{1, 3}, 9, api.ErrCut)
	refuses(t, []byte{1}, 9, api.ErrCut)
}

func TestStoredGoesByteByByte(t *testing.T) { // P5.1: which of the ends comes first
	b := pack(storedBlock("", true, "abcdef"))
	for cut := range 7 {
		for most := range 8 {
			switch {
			case most < cut && most < 6:
				refuses(t, b[:5+cut], most, api.ErrLong)
			case cut < 6:
				refuses(t, b[:5+cut], most, api.ErrCut)
			default:
				unpacks(t, b[:5+cut], most, "abcdef", 11)
			}
		}
	}
}

func TestFixedSymbols(t *testing.T) { // P5.1: kind 1, all bytes, all lengths, all distances
	all := make([]byte, 256)
	for i := range all {
		all[i] = byte(i)
	}
	unpacksText(t, closed(lits(string(all))), string(all))
	rnd := rand.New(rand.NewPCG(1, 5))
	window := make([]byte, 32768)
	for i := range window {
		window[i] = byte(rnd.IntN(256))
	}
	ahead := storedBlock("", false, string(window))
	text, want := ahead, slices.Clone(window)
	text += head(true, 1)
	for i := range 300 {
		s, d := 257+i%29, i%30
		x, y := lengthTable[s-257], distanceTable[d]
		a, b := rnd.IntN(1<<x.bits), rnd.IntN(1<<y.bits)
		if i%3 == 0 {
			a, b = 1<<x.bits-1, 1<<y.bits-1
		}
		text += lit(s) + num(a, x.bits) + code(d, 5) + num(b, y.bits)
		for range x.number + a {
			want = append(want, want[len(want)-y.number-b])
		}
	}
	unpacksText(t, text+lit(256), string(want))
}

func TestGreatestLengths(t *testing.T) { // P5.1: symbols 284, with all its bits, and 285 are both 258
	unpacksText(t, closed(lits("z")+lit(285)+code(0, 5)), strings.Repeat("z", 259))
	unpacksText(t, closed(lits("z")+lit(284)+num(31, 5)+code(0, 5)), strings.Repeat("z", 259))
	unpacksText(t, closed(lits("z")+lit(284)+num(30, 5)+code(0, 5)), strings.Repeat("z", 258))
	unpacksText(t, closed(lits("z")+lit(257)+code(0, 5)), "zzzz")
}

func TestSymbolsThatAreNoLength(t *testing.T) { // P5.1: 286 and 287; 285 is one
	for _, s := range []int{286, 287} {
		refusesText(t, closed(lits("z")+lit(s)+code(0, 5)), api.ErrForm)
		refusesText(t, head(true, 1)+lit(s), api.ErrForm)
		refuses(t, pack(head(true, 1) + lit(s))[:2], 0, api.ErrForm)
	}
	refuses(t, pack(head(true, 1) + lit(285))[:1], 1000, api.ErrCut)
}

func TestDistancesThatAreNone(t *testing.T) { // P5.1: the fixed codes of 30 and 31 are none; 28 and 29 are distances
	for d, e := range map[int]api.Errno{28: api.ErrFar, 29: api.ErrFar, 30: api.ErrCode, 31: api.ErrCode} {
		refusesText(t, closed(lits("z")+lit(257)+code(d, 5)+num(0, 13)), e)
		refusesText(t, closed(lit(257)+code(d, 5)+num(0, 13)), e)
	}
	far := 24577
	data := strings.Repeat("0123456789", 2458)[:far]
	text := storedBlock("", false, data) + head(true, 1) + lit(257) + code(29, 5) + num(0, 13) + lit(256)
	unpacksText(t, text, data+data[:3])
	refuses(t, pack(storedBlock("", false, data)+head(true, 1)+lit(257)+code(29, 5)+num(1, 13)+lit(256)), 1<<20, api.ErrFar)
	refuses(t, pack(storedBlock("", false, data[:far-1])+head(true, 1)+lit(257)+code(29, 5)+num(0, 13)+lit(256)), 1<<20, api.ErrFar)
	refuses(t, pack(storedBlock("", false, data)+head(true, 1)+lit(257)+code(30, 5)), 1<<20, api.ErrCode)
}

func TestDistances(t *testing.T) { // P5.1: of just as many bytes as there are, of one more, of 1
	for n := range 5 {
		data := "abcd"[:n]
		for d := range 4 {
			text := closed(lits(data) + lit(258) + code(d, 5))
			if d+1 > n {
				refusesText(t, text, api.ErrFar)
			} else {
				unpacksText(t, text, data+strings.Repeat(data[n-d-1:], 4)[:4])
			}
		}
	}
	unpacksText(t, closed(lits("ab")+lit(264)+code(0, 5)), "a"+strings.Repeat("b", 11))
	// What stands in blocks ahead is there, too.
	unpacksText(t, storedBlock("", false, "xy")+head(false, 1)+lit(256)+closed(lit(259)+code(1, 5)), "xyxyxyx")
	refusesText(t, storedBlock("", false, "xy")+closed(lit(259)+code(2, 5)), api.ErrFar)
	// The greatest distance: 32768.
	data := "Q" + strings.Repeat("-", 32767)
	unpacksText(t, storedBlock("", false, data)+closed(lit(257)+code(29, 5)+num(8191, 13)), data+"Q--")
	refuses(t, pack(storedBlock("", false, data[1:])+closed(lit(257)+code(29, 5)+num(8191, 13))), 1<<20, api.ErrFar)
}

func TestFirstErrorOfARepetition(t *testing.T) { // P5.1: its bits end, its distance is too great, it is too long, in that order
	b := pack(closed(lits("z") + lit(264) + code(4, 5) + "0"))
	refuses(t, b, 1, api.ErrFar)
	refuses(t, b, 100, api.ErrFar)
	refuses(t, b[:2], 1, api.ErrCut)
	b = pack(closed(lits("z") + lit(264) + code(0, 5)))
	for most := 1; most < 11; most++ {
		refuses(t, b, most, api.ErrLong)
	}
	unpacks(t, b, 11, strings.Repeat("z", 11), len(b))
	refuses(t, b, 0, api.ErrLong)
	refuses(t, pack(closed(lit(264)+code(30, 5))), 0, api.ErrCode)
	// A byte that would be too many comes ahead of what is wrong behind it.
	refuses(t, pack(closed(lits("zz")+lit(286))), 1, api.ErrLong)
	refuses(t, pack(closed(lits("zz")+lit(286))), 2, api.ErrForm)
}

func TestOwnCodes(t *testing.T) { // P5.1: kind 2
	// The symbols 97, 98, 256 and 259 have 00, 01, 10, 11; the distances 1 and 2 have 0 and 1.
	own := head(true, 2) + dynamic(lengths(260, 2, 97, 98, 256, 259), lengths(2, 1, 0, 1))
	unpacksText(t, own+"10", "")
	unpacksText(t, own+"00"+"01"+"11"+"1"+"11"+"0"+"10", "ab"+"ababa"+"aaaaa")
	refusesText(t, own+"11"+"0", api.ErrFar)
	refusesText(t, own+"00"+"11"+"1"+"10", api.ErrFar)
	// Lengths of 1 to 15.
	l := lengths(272, 0)
	for i := range 15 {
		l[256+i] = i + 1
	}
	l[0] = 15
	text := head(true, 2) + dynamic(l, []int{1})
	unpacksText(t, text+strings.Repeat("1", 14)+"0"+strings.Repeat("1", 15)+"10"+"0"+"0", strings.Repeat("\x00", 25))
}

func TestOwnCodesByRuns(t *testing.T) { // P5.1: 16, 17 and 18 repeat lengths, of symbols and distances in one row
	z := func(n int) string { return code(18, 5) + num(n-11, 7) }
	ab := z(97) + singly(2, 2) + z(138) + z(19) + singly(2, 0, 2)
	unpacksText(t, head(true, 2)+counts(259, 1)+ab+singly(0)+"00"+"01"+"10", "ab")
	// 16 goes on from a symbol's length to distances'; of eleven lengths 4 of a code each is there.
	text := head(true, 2) + counts(257, 8) + z(97) + singly(4, 4) + z(138) + z(19) + singly(4) + code(16, 5) + num(1, 2) + code(16, 5) + num(1, 2)
	unpacksText(t, text+"0000"+"0001"+"0010", "ab")
	// 17 of 3 and of 10, 18 of 11 and of 138, 16 of 3 and of 6, 16 behind 17.
	text = head(true, 2) + counts(257, 3) + code(17, 5) + num(0, 3) + code(17, 5) + num(7, 3) + z(11) + z(138) + code(16, 5) + num(3, 2) + z(88) + singly(3) + code(16, 5) + num(0, 2)
	unpacksText(t, text+"000", "")
	// Fewer than 19 lengths of lengths: of 16, 17, 18 and 0 alone no code ends; of five more 8 has one.
	text = head(true, 2) + num(0, 5) + num(0, 5) + num(1, 4) + num(0, 3) + num(0, 3) + num(1, 3) + num(2, 3) + num(2, 3)
	unpacksText(t, text+"0"+num(127, 7)+"0"+num(256-138-11, 7)+"11"+"10"+"00000000", "")
	refusesText(t, head(true, 2)+num(0, 5)+num(0, 5)+num(0, 4)+num(0, 3)+num(0, 3)+num(1, 3)+num(1, 3)+"1"+num(127, 7)+"1"+num(109, 7), api.ErrForm)
}

func TestCountsOfOwnCodes(t *testing.T) { // P5.1: 286 and 287 symbols, 30 and 31 distances; all three are taken first
	unpacksText(t, head(true, 2)+dynamic(lengths(286, 1, 256, 285), lengths(30, 1, 29))+"0", "")
	data := strings.Repeat("0123456789", 2458)[:24577]
	unpacksText(t, storedBlock("", false, data)+head(true, 2)+dynamic(lengths(286, 1, 256, 285), lengths(30, 1, 29))+"1"+"0"+num(0, 13)+"0", data+data[:258])
	refusesText(t, head(true, 2)+dynamic(lengths(287, 1, 256, 285), lengths(30, 1, 29))+"0", api.ErrForm)
	refusesText(t, head(true, 2)+dynamic(lengths(288, 1, 256, 285), lengths(1, 1, 0))+"0", api.ErrForm)
	refusesText(t, head(true, 2)+dynamic(lengths(257, 1, 256), lengths(31, 1, 0))+"0", api.ErrForm)
	refusesText(t, head(true, 2)+dynamic(lengths(286, 1, 256), lengths(32, 1, 0))+"0", api.ErrForm)
	refusesText(t, head(true, 2)+dynamic(lengths(288, 1, 256), lengths(32, 1, 0))+"0", api.ErrForm)
	for _, x := range []string{num(30, 5) + num(0, 5), num(31, 5) + num(31, 5), num(0, 5) + num(30, 5)} {
		refuses(t, pack(head(true, 2) + x)[:1], 9, api.ErrCut)
		// The third count is cut in the middle.
		ahead := head(false, 1) + lit(200) + lit(256)
		refuses(t, pack((ahead + head(true, 2) + x)[:32]), 9, api.ErrCut)
		refuses(t, pack(fill(head(true, 2)+x+num(0, 4))), 9, api.ErrForm)
	}
}

func TestLengthsOfLengths(t *testing.T) { // P5.1: such as may not be
	first := func(l ...int) string {
		t := head(true, 2) + num(0, 5) + num(0, 5) + num(len(l)-4, 4)
		for _, x := range l {
			t += num(x, 3)
		}
		return t
	}
	rest := strings.Repeat("0", 400)
	refusesText(t, first(1, 1, 1, 0)+rest, api.ErrCode)
	refusesText(t, first(1, 1, 1, 0), api.ErrCode)
	refusesText(t, first(1, 2, 2, 7)+rest, api.ErrCode)
	refusesText(t, first(slices.Repeat([]int{4}, 17)...)+rest, api.ErrCode)
	refusesText(t, first(append(slices.Repeat([]int{4}, 16), 0, 0, 1)...)+rest, api.ErrCode)
	// The last one alone is too many.
	refusesText(t, first(append([]int{1, 1}, append(lengths(16, 0), 7)...)...)+rest, api.ErrCode)
	// Bits that end within them.
	refuses(t, pack(first(1, 1, 1, 1))[:3], 9, api.ErrCut)
	// None has a code: no length can be told.
	refusesText(t, first(0, 0, 0, 0)+rest, api.ErrCode)
	refuses(t, pack(first(lengths(19, 0)...)), 9, api.ErrCode)
	refusesText(t, first(lengths(19, 0)...)+rest, api.ErrCode)
	// One has: 18, which is 0; what is 1 is none.
	refusesText(t, first(0, 0, 1, 0)+"1"+rest, api.ErrCode)
	refusesText(t, first(0, 0, 1, 0)+"0"+num(127, 7)+"0"+num(109, 7)+rest, api.ErrForm)
}

func TestRunsThatMayNotBe(t *testing.T) { // P5.1: 16 with none ahead; 16, 17 and 18 past all lengths; the bits are taken first
	all := counts(257, 1)
	rest := strings.Repeat("0", 80)
	for x := range 4 {
		refusesText(t, head(true, 2)+all+code(16, 5)+num(x, 2)+rest, api.ErrForm)
	}
	row := singly(lengths(256, 0)...) // two lengths are left
	for _, x := range []struct{ symbol, bits int }{{16, 2}, {17, 3}, {18, 7}} {
		for n := range 1 << x.bits {
			refusesText(t, head(true, 2)+all+row+code(x.symbol, 5)+num(n, x.bits)+rest, api.ErrForm)
		}
	}
	// Just all lengths, and one more.
	first := []int{16, 17, 18}
	for i, least := range []int{3, 3, 11} {
		bits, most := []int{2, 3, 7}[i], []int{6, 10, 138}[i]
		for _, n := range []int{least, most} {
			ahead := singly(lengths(257-n, 0)...)
			run := code(first[i], 5) + num(n-least, bits)
			refusesText(t, head(true, 2)+all+ahead+run+singly(0)+rest, api.ErrForm) // symbol 256 has none
			if n < most {
				refusesText(t, head(true, 2)+all+singly(lengths(258-n-1, 1, 0)...)+singly(1)+code(first[i], 5)+num(n-least+1, bits)+rest, api.ErrForm)
			}
		}
	}
	row = singly(lengths(252, 0)...)
	unpacksText(t, head(true, 2)+all+row+singly(3)+code(16, 5)+num(2, 2)+"100", "")
	unpacksText(t, head(true, 2)+all+row+code(17, 5)+num(1, 3)+singly(3, 0)+"000", "")
	refusesText(t, head(true, 2)+all+row+singly(3)+code(16, 5)+num(3, 2)+rest, api.ErrForm)
	refusesText(t, head(true, 2)+all+row+singly(3)+singly(3)+code(16, 5)+num(2, 2)+rest, api.ErrForm)
	unpacksText(t, head(true, 2)+counts(257, 3)+row+singly(0, 0, 0, 0, 1)+code(17, 5)+num(0, 3)+"0", "")
	refusesText(t, head(true, 2)+counts(257, 3)+row+singly(0, 0, 0, 0, 1)+code(17, 5)+num(1, 3)+rest, api.ErrForm)
	unpacksText(t, head(true, 2)+counts(257, 11)+row+singly(0, 0, 0, 0, 1)+code(18, 5)+num(0, 7)+"0", "")
	refusesText(t, head(true, 2)+counts(257, 11)+row+singly(0, 0, 0, 0, 1)+code(18, 5)+num(1, 7)+rest, api.ErrForm)
}

func TestBitsOfRunsComeFirst(t *testing.T) { // P5.1: where they end, that is the error, though the run may not be
	for _, x := range []struct{ symbol, bits int }{{16, 2}, {17, 3}, {18, 7}} {
		for k := range 8 {
			ahead := head(false, 1) + strings.Repeat(lit(200), k) + lit(256) + head(true, 2) + counts(257, 1)
			if x.symbol != 16 {
				ahead += singly(lengths(257, 0)...)
			}
			ahead += code(x.symbol, 5)
			b := pack(ahead + strings.Repeat("1", 16))
			for n := len(ahead) / 8; n <= len(b); n++ {
				if 8*n < len(ahead)+x.bits {
					refuses(t, b[:n], 99, api.ErrCut)
				} else {
					refuses(t, b[:n], 99, api.ErrForm)
				}
			}
		}
	}
}

func TestCodesThatMayNotBe(t *testing.T) { // P5.1: symbol 256 of length 0, then symbols' lengths, then distances'
	rest := strings.Repeat("0", 80)
	good, none, many := lengths(257, 1, 97, 256), lengths(257, 1, 97), lengths(257, 1, 97, 98, 256)
	for _, x := range []struct {
		symbols, distances []int
		e                  api.Errno
	}{
		{none, []int{1}, api.ErrForm}, {lengths(257, 0), []int{1}, api.ErrForm}, {lengths(257, 1, 1, 2, 3), []int{1}, api.ErrForm}, {none, []int{1, 1, 1}, api.ErrForm},
		{many, []int{1}, api.ErrCode}, {many, []int{1, 1, 1}, api.ErrCode}, {good, []int{1, 1, 1}, api.ErrCode}, {good, []int{1, 1, 15}, api.ErrCode}, {good, slices.Repeat([]int{4}, 17), api.ErrCode},
		{append(slices.Repeat([]int{8}, 256), 15), []int{1}, api.ErrCode}, {slices.Repeat([]int{8}, 257), []int{1}, api.ErrCode}, {slices.Repeat([]int{15}, 257), lengths(30, 4), api.ErrCut},
	} {
		b := pack(head(true, 2) + dynamic(x.symbols, x.distances))
		refuses(t, b, 99, x.e)
		if x.e != api.ErrCut {
			refusesText(t, head(true, 2)+dynamic(x.symbols, x.distances)+rest, x.e)
		}
	}
	// Lengths that leave room may be.
	unpacksText(t, head(true, 2)+dynamic(slices.Repeat([]int{15}, 257), slices.Repeat([]int{15}, 30))+code(97, 15)+code(256, 15), "a")
	unpacksText(t, head(true, 2)+dynamic(lengths(257, 4, 97, 256), []int{0, 5})+"0000"+"0001", "a")
}

func TestNoDistances(t *testing.T) { // P5.1: none has a code; it is an error where one is asked for
	for _, n := range []int{1, 2, 30} {
		text := head(true, 2) + dynamic(lengths(258, 2, 97, 256, 257), lengths(n, 0))
		unpacksText(t, text+"00"+"00"+"01", "aa")
		refusesText(t, text+"00"+"10"+"0"+"01", api.ErrCode)
		refusesText(t, text+"10"+"11111111", api.ErrCode)
		for pad := range 8 { // where no bit is left, too
			whole := head(false, 1) + strings.Repeat(lit(200), pad) + lit(256) + text + "00" + "10"
			if len(whole)%8 == 0 {
				refuses(t, pack(whole), 99, api.ErrCode)
			}
		}
	}
}

func TestCodesThatAreNone(t *testing.T) { // P5.1: of lengths, of symbols, of distances
	refusesText(t, head(true, 2)+counts(257, 1)+code(19, 5)+strings.Repeat("0", 90), api.ErrCode)
	refusesText(t, head(true, 2)+counts(257, 1)+singly(0)+"11111"+strings.Repeat("0", 90), api.ErrCode)
	text := head(true, 2) + dynamic(lengths(258, 2, 97, 256, 257), lengths(2, 3, 1))
	unpacksText(t, text+"00"+"00"+"10"+"000"+"01", "aaaaa")
	refusesText(t, text+"11"+"00000000", api.ErrCode)
	refusesText(t, text+"00"+"11"+"00000000", api.ErrCode)
	for x := 1; x < 8; x++ {
		refusesText(t, text+"00"+"00"+"10"+code(x, 3)+"01", api.ErrCode)
	}
}

func TestBlocksFollowOneAnother(t *testing.T) { // P5.1: of all kinds, in all orders, up to the last one
	own := dynamic(lengths(260, 2, 97, 98, 256, 259), lengths(2, 1, 0, 1))
	put := func(text string, last bool, kind int) (string, string) {
		switch kind {
		case 0:
			return storedBlock(text, last, "st"), "st"
		case 1:
			return text + head(last, 1) + lits("fi") + lit(256), "fi"
		}
		return text + head(last, 2) + own + "00" + "01" + "10", "ab"
	}
	for i := range 27 {
		text, want, more := "", "", ""
		for k, kind := range []int{i % 3, i / 3 % 3, i / 9} {
			text, more = put(text, k == 2, kind)
			want += more
		}
		unpacksText(t, text, want)
		behind, _ := put(text, true, i%3)
		unpacks(t, pack(behind), 6, want, (len(text)+7)/8)
	}
	for kind := range 3 {
		text, _ := put("", false, kind)
		if kind == 0 { // with the others, the bits 0 that fill a byte begin a block of kind 0
			refusesText(t, text, api.ErrCut)
		}
		text, _ = put(text, false, 1)
		refuses(t, pack(text + head(true, 1) + lit(256))[:len(text)/8], 99, api.ErrCut)
	}
	many := strings.Repeat(head(false, 1)+lit(256), 5000) + closed(lits("end"))
	unpacksText(t, many, "end")
}

func TestManyBlocksOfKindOne(t *testing.T) { // P5.1: a block has nothing of the codes of the one ahead
	own := head(false, 2) + dynamic(lengths(257, 1, 97, 256), []int{1}) + "0" + "1"
	other := head(false, 2) + dynamic(lengths(257, 1, 98, 256), []int{1}) + "0" + "1"
	fix := head(false, 1) + lits("f") + lit(256)
	unpacksText(t, own+fix+other+fix+own+fix+closed(lits("z")), "afbfafz")
}

// packed is what the library makes of bytes.
func packed(t *testing.T, data []byte, level int) []byte {
	t.Helper()
	var b bytes.Buffer
	w, err := flate.NewWriter(&b, level)
	if err != nil {
		t.Fatal(err)
	}
	w.Write(data)
	w.Close()
	return b.Bytes()
}

func TestWhatTheLibraryPacks(t *testing.T) { // P5.1
	rnd := rand.New(rand.NewPCG(2, 5))
	var all [][]byte
	for _, n := range []int{0, 1, 2, 3, 100, 1000, 20000, 70000} {
		noise, few, text := make([]byte, n), make([]byte, n), make([]byte, n)
		for i := range n {
			noise[i] = byte(rnd.IntN(256))
			few[i] = "ab"[rnd.IntN(2)]
			text[i] = byte('a' + rnd.ExpFloat64()*3)
			if i > 40 && i%97 < 40 {
				text[i] = text[i-1-rnd.IntN(40)]
			}
		}
		all = append(all, noise, few, text, bytes.Repeat([]byte("again "), n/6), make([]byte, n))
	}
	for _, data := range all {
		for _, level := range []int{flate.HuffmanOnly, 0, 1, 6} {
			b := packed(t, data, level)
			unpacks(t, b, len(data), string(data), len(b))
			if len(data) > 0 {
				refuses(t, b, len(data)-1, api.ErrLong)
			}
		}
	}
}

func TestAgainstTheWords(t *testing.T) { // P5.1: bytes that may be, that are cut, that are changed, that come as they come
	seen := map[api.Errno]int{}
	for seed := range uint64(4000) {
		m := &maker{Rand: rand.New(rand.NewPCG(seed, 6))}
		b, n := m.blocks()
		most := 100000
		switch seed % 6 {
		case 1:
			b = b[:m.IntN(len(b)+1)]
		case 2:
			b[m.IntN(len(b))] ^= 1 << m.IntN(8)
		case 3:
			most = max(n-1+m.IntN(3), 0)
		case 4:
			most = m.IntN(n + 1)
			b = b[:len(b)-m.IntN(min(len(b), 3))]
		case 5:
			for i := m.IntN(len(b)); i < len(b); i++ {
				b[i] = byte(m.IntN(256))
			}
		}
		want, at, e := plainly(b, most)
		seen[e]++
		got, n, f := inflate.Inflate(b, most)
		if !bytes.Equal(got, want) || n != at || f != e {
			t.Fatalf("seed %d, %v, %d: %.60q, %d, %v; want %.60q, %d, %v", seed, b, most, got, n, f, want, at, e)
		}
	}
	for _, e := range []api.Errno{api.OK, api.ErrLong, api.ErrCut, api.ErrForm, api.ErrCode, api.ErrFar} {
		if seen[e] < 50 {
			t.Errorf("only %d of %v", seen[e], e)
		}
	}
}

func TestWhateverBytes(t *testing.T) { // P5.1: all beginnings of two bytes, with bits as they come behind
	rnd := rand.New(rand.NewPCG(3, 5))
	for x := range 1 << 16 {
		b := []byte{byte(x), byte(x >> 8)}
		for range rnd.IntN(40) {
			b = append(b, byte(rnd.IntN(256)))
		}
		if x%8 != 0 && rnd.IntN(8) > 0 { // the rest is slow to be told plainly
			inflate.Inflate(b, 100)
			continue
		}
		want, at, e := plainly(b, 100)
		if got, n, f := inflate.Inflate(b, 100); !bytes.Equal(got, want) || n != at || f != e {
			t.Fatalf("%v: %q, %d, %v; want %q, %d, %v", b, got, n, f, want, at, e)
		}
	}
}

func TestBytesBehind(t *testing.T) { // P5.1, P5.3: what comes behind changes nothing
	unpacks(t, []byte{75, 4, 0, 1, 2, 3}, 1, "a", 3)
	unpacks(t, []byte{3, 0, 255}, 0, "", 2)
	unpacks(t, []byte{3, 252, 255}, 0, "", 2) // bits of the last byte that were not looked at
	for seed := range uint64(800) {
		m := &maker{Rand: rand.New(rand.NewPCG(seed, 7))}
		b, _ := m.blocks()
		want, n, e := inflate.Inflate(b, 100000)
		if e != api.OK {
			continue
		}
		for range 4 {
			c := slices.Clone(b[:n])
			for range m.IntN(30) {
				c = append(c, byte(m.IntN(256)))
			}
			unpacks(t, c, 100000, string(want), n)
		}
		if n > 0 {
			refuses(t, b[:n-1], 100000, api.ErrCut)
		}
	}
}

func TestGreaterMost(t *testing.T) { // P5.3: the same comes, or more
	for seed := range uint64(800) {
		m := &maker{Rand: rand.New(rand.NewPCG(seed, 8))}
		b, n := m.blocks()
		if seed%3 == 0 {
			b[m.IntN(len(b))] ^= 1 << m.IntN(8)
		}
		most := m.IntN(n + 10)
		got, at, e := inflate.Inflate(b, most)
		for _, more := range []int{most + 1, most + m.IntN(500), api.MaxData} {
			then, now, f := inflate.Inflate(b, more)
			if e != api.ErrLong && (!bytes.Equal(got, then) || at != now || e != f) {
				t.Fatalf("seed %d: %d, %v of %d; %d, %v of %d", seed, len(got), e, most, len(then), f, more)
			}
			if e == api.ErrLong && f == api.OK && len(then) <= most {
				t.Fatalf("seed %d: %d bytes are more than %d", seed, len(then), most)
			}
		}
	}
}

func TestBytesAreNeitherChangedNorKept(t *testing.T) { // P5.1 by rule R3
	for _, text := range []string{storedBlock("", true, "abcabca"), closed(lits("abc") + lit(258) + code(2, 5))} {
		b := pack(text)
		room := append(slices.Clone(b), 9, 9, 9, 9)
		given := room[:len(b)]
		one, _, _ := inflate.Inflate(given, 100)
		two, _, _ := inflate.Inflate(given, 100)
		if !bytes.Equal(room, append(b, 9, 9, 9, 9)) {
			t.Error("the list was changed", room)
		}
		clear(room)
		clear(one[:cap(one)])
		if string(two) != "abcabca" {
			t.Errorf("%q", two)
		}
	}
}

func TestCallsAreApart(t *testing.T) { // P5.1 by rule R4: a call that was refused leaves nothing
	for _, b := range [][]byte{{7}, nil, {75}, pack(head(true, 2) + dynamic(lengths(257, 1, 97, 98, 256), []int{1})), pack(head(false, 2) + dynamic(lengths(257, 1, 97, 256), []int{1}) + "0")} {
		inflate.Inflate(b, 100)
		unpacks(t, []byte{75, 4, 0}, 1, "a", 3)
	}
}

package zlib_test

import (
	"bytes"
	"math"
	"math/rand/v2"
	"slices"
	"testing"

	"catchword/api"
	"catchword/deflate"
	"catchword/inflate"
	"catchword/zlib"
)

// What stands between a head and a sum: of ten bytes a, of none, of kind 3, of a code that is none, of one too far, of a length that is not turned.
const (
	tenA    = "\x4b\x4c\x84\x01\x00"
	none    = "\x03\x00"
	kind3   = "\x07"
	noCode  = "\x03\x3e"
	tooFar  = "\x03\x02\x00"
	notSame = "\x01\x01\x00\x00\x00x"
	sumTenA = "\x14\xe1\x03\xcb"
	sumNone = "\x00\x00\x00\x01"
	head    = "\x78\x9c"
)

func TestUnpackOfKnownBytes(t *testing.T) { // P8.2
	unpacks(t, around(head, tenA, sumTenA), 10, "aaaaaaaaaa", 11)
	unpacks(t, around(head, tenA, sumTenA), 20, "aaaaaaaaaa", 11)
	unpacks(t, around(head, none, sumNone), 0, "", 8)
	unpacks(t, around(head, none, sumNone), 9, "", 8)
	unpacks(t, around(head, "\x01\x09\x00\xf6\xffWikipedia", "\x11\xe6\x03\x98"), 9, "Wikipedia", 20)
	refuses(t, around(head, tenA, "\xcb\x03\xe1\x14"), 20, api.ErrSum) // the lowest byte first
	refuses(t, around(head, tenA, "\x03\xcb\x14\xe1"), 20, api.ErrSum) // the halves changed about
	refuses(t, around(head, none, "\x00\x00\x00\x00"), 20, api.ErrSum)
	refuses(t, around(head, none, "\x00\x01\x00\x00"), 20, api.ErrSum)
}

func TestUnpackWithEachHead(t *testing.T) { // P8.2: all that may be, and all that may not
	for x := range 65536 {
		b := around(string([]byte{byte(x >> 8), byte(x)}), tenA, sumTenA)
		if headOK(b[0], b[1]) {
			unpacks(t, b, 10, "aaaaaaaaaa", 11)
		} else {
			refuses(t, b, 10, api.ErrForm)
		}
	}
}

func TestMost(t *testing.T) { // P8.2: -1, 0, just the bytes, one less, MaxData and one more
	for _, kind := range kinds {
		for _, s := range []string{"", "a", "aaaaaaaaaa", "hello hello hello hello", "\x00\xff"} {
			p := packed(t, []byte(s), kind)
			for _, most := range []int{len(s), len(s) + 1, len(s) + 258, api.MaxData - 1, api.MaxData} {
				unpacks(t, p, most, s, len(p))
			}
			for most := range len(s) {
				refuses(t, p, most, api.ErrLong)
			}
		}
	}
}

func TestMostThatMayNotBe(t *testing.T) { // P8.2: ErrArg, ahead of all else
	for _, b := range [][]byte{
		nil, {}, {120}, {121}, []byte(head), {0, 0}, around(head, none, sumNone), around(head, tenA, sumTenA), around(head, tenA, "\x14\xe1\x03"),
		around(head, tenA, "\x14\xe1\x03\xcc"), around(head, kind3, ""), around(head, tooFar, sumNone), around("\x78\x9d", tenA, sumTenA),
	} {
		for _, most := range []int{-1, -2, math.MinInt, math.MinInt + 1, api.MaxData + 1, api.MaxData + 2, 1 << 31, 1 << 32, 1<<32 + 10, math.MaxInt} {
			refuses(t, b, most, api.ErrArg)
		}
	}
}

func TestErrorsOfInflate(t *testing.T) { // P8.2: each that there is, whatever is behind
	for _, x := range []struct {
		middle string
		most   int
		want   api.Errno
	}{
		{"", 10, api.ErrCut},
		{"\x4b", 10, api.ErrCut},
		{"\x01\x00\x00\xff", 10, api.ErrCut},
		{"\x01\x02\x00\xfd\xffa", 10, api.ErrCut},
		{kind3, 10, api.ErrForm},
		{notSame, 10, api.ErrForm},
		{noCode, 10, api.ErrCode},
		{tooFar, 10, api.ErrFar},
		{tenA, 9, api.ErrLong},
		{tenA, 0, api.ErrLong},
		{"\x01\x02\x00\xfd\xffaa", 1, api.ErrLong},
	} {
		if _, _, e := inflate.Inflate([]byte(x.middle), x.most); e != x.want {
			t.Errorf("%x: wrong row: %v", x.middle, e)
		}
		refuses(t, around(head, x.middle, ""), x.most, x.want)
		if x.want == api.ErrCut {
			continue // what is behind would be looked at
		}
		for _, s := range behind {
			refuses(t, around(head, x.middle, s), x.most, x.want)
			refuses(t, around("\x78\x01", x.middle, s), x.most, x.want)
		}
	}
}

func TestErrorsInTheirOrder(t *testing.T) { // P8.2: where there are several
	const wrongSum = "\x14\xe1\x03\xcc"
	refuses(t, nil, -1, api.ErrArg)                                           // most, and no head
	refuses(t, around("\x78\x9d", tenA, wrongSum), api.MaxData+1, api.ErrArg) // most, a head and a sum
	refuses(t, nil, 0, api.ErrCut)
	refuses(t, []byte{0}, 0, api.ErrCut)                                // one byte, that begins no head
	refuses(t, []byte("\x78\x9d"), 10, api.ErrForm)                     // a head, and nothing behind
	refuses(t, around("\x78\x9d", noCode, ""), 10, api.ErrForm)         // a head, and a code
	refuses(t, around("\x78\x9d", tooFar, sumNone), 10, api.ErrForm)    // a head, and a distance
	refuses(t, around("\x78\x9d", tenA, sumTenA), 9, api.ErrForm)       // a head, and too many bytes
	refuses(t, around("\x78\x9d", tenA, wrongSum), 10, api.ErrForm)     // a head, and a sum
	refuses(t, around("\x88\x1c", tenA, "\x14"), 10, api.ErrForm)       // a head, and a sum that is cut
	refuses(t, around(head, noCode, "\x14"), 10, api.ErrCode)           // a code, and a sum that is cut
	refuses(t, around(head, tooFar, "\x14"), 10, api.ErrFar)            // a distance, and a sum that is cut
	refuses(t, around(head, tenA, "\x14\xe1"), 9, api.ErrLong)          // too many bytes, and a sum that is cut
	refuses(t, around(head, tenA, wrongSum), 9, api.ErrLong)            // too many bytes, and a sum
	refuses(t, around(head, kind3, ""), 0, api.ErrForm)                 // a kind, and no sum
	refuses(t, around(head, tenA, wrongSum[:3]), 10, api.ErrCut)        // a sum that is cut
	refuses(t, around(head, tenA, "\x00\x00\x00"), 10, api.ErrCut)      // one that is another, too
	refuses(t, around(head, tenA, wrongSum+sumTenA), 10, api.ErrSum)    // the right sum, but farther behind
	refuses(t, around(head, tenA, "\x00"+sumTenA), 10, api.ErrSum)      // likewise, one byte
	refuses(t, around(head, tenA, sumTenA[1:]+sumTenA), 10, api.ErrSum) // likewise, three
}

func TestCutAtEachPlace(t *testing.T) { // P8.2: within the head, within what is packed, and within the sum
	for _, b := range texts() {
		for _, kind := range kinds {
			p := packed(t, b, kind)
			for n := range p {
				if len(b) <= 1000 {
					refuses(t, p[:n], len(b), api.ErrCut)
					refuses(t, slices.Clone(p[:n]), api.MaxData, api.ErrCut)
				}
			}
			for n := len(p) - 5; n < len(p); n++ {
				refuses(t, p[:n], len(b), api.ErrCut)
			}
		}
	}
}

func TestEachByteChanged(t *testing.T) { // P8.2: to each other one, in the head, in what is packed and in the sum
	seen := map[api.Errno]int{}
	for _, s := range []string{"", "a", "aaaaaaaaaa", "hello hello hello", "abcdefgh\x00\xff"} {
		for _, kind := range kinds {
			p := packed(t, []byte(s), kind)
			for at := range p {
				for x := range 256 {
					if byte(x) == p[at] {
						continue
					}
					c := changed(p, at, byte(x))
					seen[agrees(t, c, len(s))]++
					seen[agrees(t, c, 200)]++
					agrees(t, with(c, "endstream"), 200)
					if at >= len(p)-4 {
						refuses(t, c, 200, api.ErrSum)
					}
				}
			}
		}
	}
	for _, e := range []api.Errno{api.OK, api.ErrLong, api.ErrCut, api.ErrForm, api.ErrSum, api.ErrCode, api.ErrFar} {
		if seen[e] == 0 {
			t.Errorf("%v never comes", e)
		}
	}
}

func TestContentChanged(t *testing.T) { // P8.3: one byte within what is stored, whose sum is then another
	for _, s := range []string{"a", "abc", "Wikipedia", "hello hello hello"} {
		p := packed(t, []byte(s), deflate.Stored)
		for at := range s {
			for x := range 256 {
				if byte(x) != s[at] {
					refuses(t, changed(p, 7+at, byte(x)), 100, api.ErrSum)
				}
			}
		}
	}
	b := noise(99, 70000, 256)
	p := packed(t, b, deflate.Stored)
	for _, at := range []int{0, 1, 100, 5551, 5552, 65534, 65535, 65536, 69999} {
		refuses(t, changed(p, 7+at+at/65535*5, b[at]+1), len(b), api.ErrSum)
		refuses(t, changed(p, 7+at+at/65535*5, b[at]-1), len(b), api.ErrSum)
	}
}

func TestSumChanged(t *testing.T) { // P8.3: each byte of it, whatever was packed, and by whatever kind
	for i, b := range texts() {
		p := packed(t, b, kinds[i%4])
		for at := len(p) - 4; at < len(p); at++ {
			for bit := range 8 {
				refuses(t, changed(p, at, p[at]^1<<bit), len(b), api.ErrSum)
			}
			refuses(t, changed(p, at, ^p[at]), len(b), api.ErrSum)
			refuses(t, with(changed(p, at, p[at]+1), "z"), len(b), api.ErrSum)
		}
	}
}

func TestWhatIsPackedComesBack(t *testing.T) { // P8.3: whatever is behind
	for _, b := range texts() {
		for _, kind := range kinds {
			p := packed(t, b, kind)
			for _, s := range behind {
				unpacks(t, with(p, s), len(b), string(b), len(p))
				unpacks(t, with(p, s), api.MaxData, string(b), len(p))
			}
		}
	}
}

func TestWhatTheLibraryPacks(t *testing.T) { // P8.2 and P8.3: its heads are of all four levels
	seconds := map[byte]bool{}
	for _, b := range texts() {
		for level := -2; level <= 9; level++ {
			p := ofLibrary(t, b, level)
			seconds[p[1]] = true
			for _, s := range behind {
				unpacks(t, with(p, s), len(b), string(b), len(p))
			}
		}
	}
	if len(seconds) != 4 {
		t.Error(seconds)
	}
}

func TestWhereBytesEndWithinAByte(t *testing.T) { // P8.2: the sum begins with a byte, whatever the bits ahead of it are
	for n := range 300 {
		b := noise(uint64(n), n, 200)
		for _, kind := range []int{deflate.Fixed, deflate.Dynamic} {
			p := packed(t, b, kind)
			_, bits, _ := inflate.Inflate(p[2:len(p)-4], n)
			if bits != len(p)-6 {
				t.Fatal(n, kind, bits, len(p))
			}
			for _, mask := range []byte{0x80, 0xc0, 0xff} {
				agrees(t, changed(p, len(p)-5, p[len(p)-5]|mask), n+300)
			}
		}
	}
	// Of the second byte of none two bits are looked at.
	for x := 0; x < 256; x += 4 {
		unpacks(t, around(head, string([]byte{3, byte(x)}), sumNone), 10, "", 8)
	}
}

func TestManyChanges(t *testing.T) { // P8.2 and P8.3: agrees with the words, and with the library where that tells bytes
	told := 0
	for seed := range uint64(3000) {
		r := rand.New(rand.NewPCG(88, seed))
		b := noise(seed, r.IntN(200), 1+r.IntN(256)>>r.IntN(8))
		p := with(packed(t, b, r.IntN(4)), behind[r.IntN(len(behind))])
		for range r.IntN(3) {
			p[r.IntN(len(p))] = byte(r.Uint32())
		}
		if r.IntN(8) == 0 {
			p = p[:r.IntN(len(p)+1)]
		}
		agrees(t, p, r.IntN(300))
		if out, e := byLibrary(p); e == nil {
			told++
			if got, _, f := zlib.Unpack(p, api.MaxData); f != api.OK || !bytes.Equal(got, out) {
				t.Errorf("%.60x: %.40q, %v; by the library %.40q", p, got, f, out)
			}
		}
	}
	if told == 0 {
		t.Error("the library tells no bytes")
	}
}

func TestUnpackNeitherChangesNorShares(t *testing.T) { // P8.2 by rules R3 and R4
	for _, kind := range kinds {
		room := with(packed(t, []byte("hello hello hello"), kind), "room")
		n := len(room) - 4
		kept := string(room)
		out, _, _ := zlib.Unpack(room[:n], 100)
		clear(out[:cap(out)])
		if string(room) != kept {
			t.Errorf("kind %d: %q", kind, room)
		}
		unpacks(t, room[:n], 100, "hello hello hello", n)
		refuses(t, room[:n-1], 100, api.ErrCut)
		out, _, _ = zlib.Unpack(room[:n], 100)
		clear(room)
		if string(out) != "hello hello hello" {
			t.Errorf("kind %d: %q", kind, out)
		}
	}
}

func TestNoListAndAnEmptyOne(t *testing.T) { // P8.1 and P8.2 by rule R3
	for _, kind := range kinds {
		if p, q := packed(t, nil, kind), packed(t, []byte{}, kind); !bytes.Equal(p, q) {
			t.Errorf("kind %d: %x, %x", kind, p, q)
		}
	}
	refuses(t, nil, 0, api.ErrCut)
	refuses(t, []byte{}, 0, api.ErrCut)
}

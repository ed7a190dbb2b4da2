package zlib_test

import (
	"bytes"
	"math"
	"testing"

	"catchword/api"
	"catchword/zlib"
)

func TestHead(t *testing.T) { // P8.1, and the chapter's example
	for level, want := range []string{"\x78\x01", "\x78\x5e", "\x78\x9c", "\x78\xda"} {
		if h := zlib.Head(level); string(h) != want {
			t.Errorf("%d: %x, want %x", level, h, want)
		}
	}
	if h := zlib.Head(2); !bytes.Equal(h, []byte{120, 156}) {
		t.Error(h)
	}
}

func TestHeadOfOtherLevels(t *testing.T) { // P8.1: 2 of others
	for _, level := range []int{-1, -2, -3, -4, -128, -256, 4, 5, 6, 7, 8, 9, 63, 64, 128, 192, 255, 256, 257, 259, 1 << 16, 1 << 32, 1<<32 + 1, 3 - 1<<32, math.MaxInt, math.MinInt, math.MinInt + 3} {
		if h := zlib.Head(level); !bytes.Equal(h, []byte{120, 156}) {
			t.Errorf("%d: %x", level, h)
		}
	}
}

func TestHeadIsTheLeast(t *testing.T) { // P8.1: of all heads that have the level
	for level := range 4 {
		var want []byte
		for second := range 256 {
			if second/64 == level && headOK(120, byte(second)) {
				want = []byte{120, byte(second)}
				break
			}
		}
		if h := zlib.Head(level); !bytes.Equal(h, want) {
			t.Errorf("%d: %x, want %x", level, h, want)
		}
	}
}

func TestHeadIsAHead(t *testing.T) { // P8.1 and P8.2
	for level := -3; level < 8; level++ {
		if e := zlib.Check(zlib.Head(level)); e != api.OK {
			t.Errorf("%d: %v", level, e)
		}
	}
}

func TestHeadIsNew(t *testing.T) { // P8.1 by rule R3
	for level := -1; level < 5; level++ {
		h := zlib.Head(level)
		want := string(h)
		h = append(h[:0], 9, 9, 9, 9)
		if again := zlib.Head(level); string(again) != want {
			t.Errorf("%d: %x, want %x, behind %x", level, again, want, h)
		}
	}
}

// checks asks for Check's answer.
func checks(t *testing.T, b string, want api.Errno) {
	t.Helper()
	if e := zlib.Check([]byte(b)); e != want {
		t.Errorf("%.20x: %v, want %v", b, e, want)
	}
}

func TestCheckOfTooFewBytes(t *testing.T) { // P8.2: no bytes, and one, whatever it is
	if e := zlib.Check(nil); e != api.ErrCut {
		t.Error(e)
	}
	checks(t, "", api.ErrCut)
	for x := range 256 {
		checks(t, string([]byte{byte(x)}), api.ErrCut)
	}
}

func TestCheckOfEachFault(t *testing.T) { // P8.2: each alone, and several at once
	for _, x := range []struct {
		b, fault string
		want     api.Errno
	}{
		{"\x78\x01", "none, level 0", api.OK},
		{"\x78\x5e", "none, level 1", api.OK},
		{"\x78\x9c", "none, level 2", api.OK},
		{"\x78\xda", "none, level 3", api.OK},
		{"\x08\x1d", "none, high bits 0", api.OK},
		{"\x68\x05", "none, high bits 6", api.OK},
		{"\x77\x85", "low bits 7", api.ErrForm},
		{"\x79\x97", "low bits 9", api.ErrForm},
		{"\x70\x85", "low bits 0", api.ErrForm},
		{"\x7c\x86", "low bits 12", api.ErrForm},
		{"\x7f\x17", "low bits 15", api.ErrForm},
		{"\x88\x1c", "high bits 8", api.ErrForm},
		{"\x98\x02", "high bits 9", api.ErrForm},
		{"\xf8\x01", "high bits 15", api.ErrForm},
		{"\x78\x20", "the bit of 32", api.ErrForm},
		{"\x78\x3f", "the bit of 32", api.ErrForm},
		{"\x78\x7d", "the bit of 32", api.ErrForm},
		{"\x78\xbb", "the bit of 32", api.ErrForm},
		{"\x78\xf9", "the bit of 32", api.ErrForm},
		{"\x78\x00", "no multiple", api.ErrForm},
		{"\x78\x9b", "no multiple", api.ErrForm},
		{"\x78\x9d", "no multiple", api.ErrForm},
		{"\x78\xdb", "no multiple", api.ErrForm},
		{"\x9c\x78", "turned about", api.ErrForm},
		{"\x88\x98", "high bits 8, no multiple", api.ErrForm},
		{"\x00\x00", "low bits 0, high bits 0", api.ErrForm},
		{"\xff\xff", "all", api.ErrForm},
	} {
		if headOK(x.b[0], x.b[1]) != (x.want == api.OK) {
			t.Errorf("%x, %s: wrong row", x.b, x.fault)
		}
		checks(t, x.b, x.want)
	}
}

func TestCheckOfAllPairs(t *testing.T) { // P8.2: each first byte with each second one, and whatever is behind
	heads := 0
	for x := range 65536 {
		b := string([]byte{byte(x >> 8), byte(x)})
		want := api.ErrForm
		if headOK(b[0], b[1]) {
			want = api.OK
			heads++
		}
		checks(t, b, want)
		checks(t, b+"\x00", want)
		checks(t, b+"\xff\x9c", want)
		checks(t, b+"\x78\x9c\x03\x00\x00\x00\x00\x01", want)
	}
	if heads == 0 || heads > 8*8 {
		t.Error(heads)
	}
}

func TestCheckLooksAtTwoBytesAlone(t *testing.T) { // P8.2 by rule R3
	room := []byte("\x78\x9crest")
	if e := zlib.Check(room[:1]); e != api.ErrCut {
		t.Error(e)
	}
	if e := zlib.Check(room[:2]); e != api.OK || string(room) != "\x78\x9crest" {
		t.Error(e, room)
	}
}

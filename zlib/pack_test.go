package zlib_test

import (
	"bytes"
	"math"
	"slices"
	"testing"

	"catchword/api"
	"catchword/deflate"
	"catchword/zlib"
)

func TestPackOfKnownTexts(t *testing.T) { // P8.1
	for _, x := range []struct {
		b    []byte
		kind int
		want string
	}{
		{nil, deflate.Stored, "\x78\x9c\x01\x00\x00\xff\xff\x00\x00\x00\x01"},
		{nil, deflate.Fixed, "\x78\x9c\x03\x00\x00\x00\x00\x01"},
		{nil, deflate.Least, "\x78\x9c\x03\x00\x00\x00\x00\x01"},
		{[]byte{}, deflate.Least, "\x78\x9c\x03\x00\x00\x00\x00\x01"},
		{[]byte("a"), deflate.Stored, "\x78\x9c\x01\x01\x00\xfe\xffa\x00\x62\x00\x62"},
		{[]byte("a"), deflate.Fixed, "\x78\x9c\x4b\x04\x00\x00\x62\x00\x62"},
		{[]byte("a"), deflate.Least, "\x78\x9c\x4b\x04\x00\x00\x62\x00\x62"},
		{[]byte("abc"), deflate.Stored, "\x78\x9c\x01\x03\x00\xfc\xffabc\x02\x4d\x01\x27"},
		{[]byte("Wikipedia"), deflate.Stored, "\x78\x9c\x01\x09\x00\xf6\xffWikipedia\x11\xe6\x03\x98"},
	} {
		if p, e := zlib.Pack(x.b, x.kind); string(p) != x.want || e != api.OK {
			t.Errorf("%q, kind %d: %q, %v; want %q", x.b, x.kind, p, e, x.want)
		}
	}
}

func TestPackIsHeadAndDeflateAndSum(t *testing.T) { // P8.1: of each kind, and of the library
	for _, b := range texts() {
		for _, kind := range kinds {
			d, _ := deflate.Deflate(b, kind)
			want := slices.Concat([]byte{120, 156}, d, sumOf(b))
			p := packed(t, b, kind)
			if !bytes.Equal(p, want) {
				t.Errorf("%.40q, of %d, kind %d: %.40x, want %.40x", b, len(b), kind, p, want)
			}
			if out, e := byLibrary(p); e != nil || !bytes.Equal(out, b) {
				t.Errorf("%.40q, of %d, kind %d: by the library %d, %v", b, len(b), kind, len(out), e)
			}
		}
	}
}

func TestPackOfOneByte(t *testing.T) { // P8.1: each, and the four bytes of its sum in their order
	for x := range 256 {
		for _, kind := range kinds {
			b := []byte{byte(x)}
			p := packed(t, b, kind)
			sum := []byte{byte((x + 1) >> 8), byte(x + 1), byte((x + 1) >> 8), byte(x + 1)}
			if !bytes.Equal(p[len(p)-4:], sum) || p[0] != 120 || p[1] != 156 {
				t.Errorf("%d, kind %d: %x, want the sum %x", x, kind, p, sum)
			}
			unpacks(t, p, 1, string(b), len(p))
		}
	}
}

func TestPackOfOtherKinds(t *testing.T) { // P8.1: ErrArg, no bytes beside it, and ahead of too many bytes
	for _, kind := range append(slices.Clone(wrong), math.MaxInt, math.MinInt) {
		for _, b := range [][]byte{nil, {}, []byte("a"), []byte("hello hello"), make([]byte, api.MaxData+1)} {
			if p, e := zlib.Pack(b, kind); len(p) != 0 || e != api.ErrArg {
				t.Errorf("%d bytes, kind %d: %d, %v", len(b), kind, len(p), e)
			}
		}
	}
}

func TestPackOfMaxData(t *testing.T) { // P8.1: as many bytes as may be, and one more
	all := make([]byte, api.MaxData+1)
	all[0], all[api.MaxData-1] = 1, 2
	for _, kind := range kinds {
		p, e := zlib.Pack(all[:api.MaxData], kind)
		if e != api.OK || !bytes.HasPrefix(p, []byte{120, 156}) || !bytes.HasSuffix(p, sumOf(all[:api.MaxData])) {
			t.Fatalf("kind %d: %d, %v", kind, len(p), e)
		}
		out, n, e := zlib.Unpack(p, api.MaxData)
		if e != api.OK || n != len(p) || !bytes.Equal(out, all[:api.MaxData]) {
			t.Errorf("kind %d: %d, of %d %d, %v", kind, len(out), len(p), n, e)
		}
		refuses(t, p, api.MaxData-1, api.ErrLong)
		refuses(t, p, api.MaxData+1, api.ErrArg)
		for _, b := range [][]byte{all, make([]byte, api.MaxData+70000)} {
			if p, e := zlib.Pack(b, kind); len(p) != 0 || e != api.ErrLong {
				t.Errorf("%d, kind %d: %d, %v", len(b), kind, len(p), e)
			}
		}
	}
}

func TestPackNeitherChangesNorShares(t *testing.T) { // P8.1 by rules R3 and R4
	room := []byte("abcabcabcabcxyzabcabc")
	kept := string(room)
	for _, kind := range kinds {
		p, q := packed(t, room[:12], kind), packed(t, []byte(kept[:12]), kind)
		if !bytes.Equal(p, q) || string(room) != kept {
			t.Errorf("kind %d: %x, %x, %q", kind, p, q, room)
		}
		clear(p[:cap(p)])
		if string(room) != kept || !bytes.Equal(packed(t, room[:12], kind), q) {
			t.Errorf("kind %d: %x, %q", kind, q, room)
		}
		room[0] = 'z'
		unpacks(t, q, 12, kept[:12], len(q))
		room[0] = 'a'
	}
}

package zlib_test

import (
	"bytes"
	lib "compress/zlib"
	"hash/adler32"
	"io"
	"math/rand/v2"
	"slices"
	"strings"
	"testing"

	"catchword/api"
	"catchword/deflate"
	"catchword/inflate"
	"catchword/zlib"
)

// kinds are all kinds of Pack, wrong are numbers that are none.
var (
	kinds = []int{deflate.Stored, deflate.Fixed, deflate.Dynamic, deflate.Least}
	wrong = []int{-1, -2, 4, 5, 255, 256, 1 << 16, 1 << 32, 1<<32 + 1}
)

// sumOf is bytes' sum, the highest byte first.
func sumOf(b []byte) []byte {
	x := adler32.Checksum(b)
	return []byte{byte(x >> 24), byte(x >> 16), byte(x >> 8), byte(x)}
}

// headOK tells by the chapter's words whether two bytes are a head.
func headOK(first, second byte) bool {
	low, high := first%16, first/16
	return low == 8 && high <= 7 && second/32%2 == 0 && (int(first)*256+int(second))%31 == 0
}

// plainly is Unpack by the chapter's words, over inflate.
func plainly(b []byte, most int) ([]byte, int, api.Errno) {
	switch {
	case most < 0 || most > 1<<24:
		return nil, 0, api.ErrArg
	case len(b) < 2:
		return nil, 0, api.ErrCut
	case !headOK(b[0], b[1]):
		return nil, 0, api.ErrForm
	}
	out, n, e := inflate.Inflate(b[2:], most)
	switch {
	case e != api.OK:
		return nil, 0, e
	case len(b) < n+6:
		return nil, 0, api.ErrCut
	case !bytes.Equal(b[n+2:n+6], sumOf(out)):
		return nil, 0, api.ErrSum
	}
	return out, n + 6, api.OK
}

// agrees asks that Unpack is what the chapter's words say, and tells the error.
func agrees(t *testing.T, b []byte, most int) api.Errno {
	t.Helper()
	want, at, f := plainly(b, most)
	out, n, e := zlib.Unpack(b, most)
	if !bytes.Equal(out, want) || n != at || e != f {
		t.Errorf("%.60x, of %d, %d: %.40q, %d, %v; want %.40q, %d, %v", b, len(b), most, out, n, e, want, at, f)
	}
	return e
}

// unpacks asks for bytes that must come, and how many are looked at.
func unpacks(t *testing.T, b []byte, most int, want string, n int) {
	t.Helper()
	if out, at, e := zlib.Unpack(b, most); string(out) != want || at != n || e != api.OK {
		t.Errorf("%.60x, of %d, %d: %.40q, %d, %v; want %.40q, %d", b, len(b), most, out, at, e, want, n)
	}
}

// refuses asks for an error, beside which there is nothing.
func refuses(t *testing.T, b []byte, most int, want api.Errno) {
	t.Helper()
	if out, n, e := zlib.Unpack(b, most); len(out) != 0 || n != 0 || e != want {
		t.Errorf("%.60x, of %d, %d: %.40q, %d, %v; want %v", b, len(b), most, out, n, e, want)
	}
}

// packed is b, packed by a kind.
func packed(t *testing.T, b []byte, kind int) []byte {
	t.Helper()
	p, e := zlib.Pack(b, kind)
	if e != api.OK {
		t.Fatalf("%.40q, of %d, kind %d: %v", b, len(b), kind, e)
	}
	return p
}

// byLibrary is what the library makes of packed bytes.
func byLibrary(p []byte) ([]byte, error) {
	r, e := lib.NewReader(bytes.NewReader(p))
	if e != nil {
		return nil, e
	}
	return io.ReadAll(r)
}

// ofLibrary is b, packed by the library.
func ofLibrary(t *testing.T, b []byte, level int) []byte {
	t.Helper()
	var out bytes.Buffer
	w, e := lib.NewWriterLevel(&out, level)
	if e != nil {
		t.Fatal(e)
	}
	w.Write(b)
	w.Close()
	return out.Bytes()
}

// around is a head, packed bytes and a sum, one behind the other.
func around(head, middle, sum string) []byte { return []byte(head + middle + sum) }

// noise is n bytes of so many values.
func noise(seed uint64, n, of int) []byte {
	r := rand.New(rand.NewPCG(8, seed))
	b := make([]byte, n)
	for i := range b {
		b[i] = byte(r.IntN(of))
	}
	return b
}

// texts are ordinary ones: none, one byte, words, noise, bytes that repeat.
func texts() [][]byte {
	l := [][]byte{
		nil, {}, {0}, []byte("a"), {255}, []byte("abc"), []byte("Wikipedia"), []byte("aaaaaaaaaa"),
		[]byte("<</Type/Page/Parent 2 0 R/MediaBox[0 0 612 792]>> <</Type/Page/Parent 2 0 R/MediaBox[0 0 612 792]>>"),
		[]byte(strings.Repeat("BT /F1 12 Tf 72 720 Td (some words) Tj ET\n", 200)),
		make([]byte, 1000), bytes.Repeat([]byte{255}, 70000), bytes.Repeat([]byte("ab"), 1000),
	}
	for i, n := range []int{2, 3, 10, 100, 1000, 65535, 65536, 100000} {
		l = append(l, noise(uint64(i), n, 256), noise(uint64(i), n, 5))
	}
	return l
}

// behind is what may stand behind packed bytes.
var behind = []string{"", "\x00", "\xff", "z", "\x00\x00\x00\x01", "endstream", "\x78\x9c\x03\x00\x00\x00\x00\x01", strings.Repeat("\xff", 300)}

// with is b, and others behind it.
func with(b []byte, others string) []byte { return append(slices.Clone(b), others...) }

// changed is b with another byte at a place.
func changed(b []byte, at int, x byte) []byte {
	c := slices.Clone(b)
	c[at] = x
	return c
}

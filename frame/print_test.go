package frame_test

import (
	"bytes"
	zip "compress/zlib"
	"fmt"
	"io"
	"math"
	"math/rand/v2"
	"strings"
	"testing"

	"catchword/api"
	"catchword/frame"
	"catchword/parse"
	"catchword/value"
)

// prints asks for Print's answer, not packed.
func prints(t *testing.T, n int, o api.Object, want string) {
	t.Helper()
	b, e := frame.Print(n, o, false)
	if string(b) != want || e != api.OK {
		t.Errorf("Print(%d, %s, false): %.300q, %v, want %.300q", n, brief(o), b, e, want)
	}
	few(t)
}

// packs asks for Print's answer, packed: what stands around the bytes, how many they are, and what they are.
func packs(t *testing.T, n int, o api.Object) {
	t.Helper()
	b, e := frame.Print(n, o, true)
	if !o.Stream {
		if string(b) != printed(n, o) || e != api.OK {
			t.Errorf("Print(%d, %s, true): %.300q, %v", n, brief(o), b, e)
		}
		few(t)
		return
	}
	head := fmt.Sprintf("%d 0 obj\n", n)
	v, at, _ := parse.Value(b, min(len(head), len(b)), true)
	within, ok := strings.CutPrefix(string(b[at:]), "\nstream\n")
	within, ended := strings.CutSuffix(within, "\nendstream\nendobj\n")
	want := value.Put(value.Put(o.V, "Filter", name("FlateDecode")), "Length", whole(len(within)))
	if e != api.OK || !ok || !ended || !value.Same(v, want) || string(b[:at]) != head+form(want) {
		t.Errorf("Print(%d, %s, true): %.300q, %v", n, brief(o), b, e)
	}
	few(t)
	left := strings.NewReader(within)
	r, err := zip.NewReader(left)
	if err != nil {
		t.Fatal(brief(o), err)
	}
	if data, err := io.ReadAll(r); string(data) != o.Data || err != nil || left.Len() > 0 {
		t.Errorf("Print(%d, %s, true): %.300q is packed, %v, ahead of %d more bytes", n, brief(o), data, err, left.Len())
	}
	few(t)
}

// printsBoth asks for Print's answers, as the chapter's words say.
func printsBoth(t *testing.T, n int, o api.Object) {
	t.Helper()
	prints(t, n, o, printed(n, o))
	packs(t, n, o)
}

// refusesPrint asks for an error of Print, and no bytes, packed or not.
func refusesPrint(t *testing.T, n int, o api.Object, e api.Errno) {
	t.Helper()
	for _, packed := range []bool{true, false} {
		if b, f := frame.Print(n, o, packed); len(b) != 0 || f != e {
			t.Errorf("Print(%d, %s, %v): %.300q, %v, want %v", n, brief(o), packed, b, f, e)
		}
	}
	few(t)
}

func TestPrintOfKnownObjects(t *testing.T) { // P14.2: the chapter's example, and each Kind
	prints(t, 5, plain(whole(7)), "5 0 obj\n7\nendobj\n")
	prints(t, 1, plain(null()), "1 0 obj\nnull\nendobj\n")
	prints(t, 1, plain(truth(1)), "1 0 obj\ntrue\nendobj\n")
	prints(t, 1, plain(truth(0)), "1 0 obj\nfalse\nendobj\n")
	prints(t, 10, plain(whole(-12)), "10 0 obj\n-12\nendobj\n")
	prints(t, 1, plain(millionths(-500000)), "1 0 obj\n-0.5\nendobj\n")
	prints(t, 1, plain(text("endobj")), "1 0 obj\n(endobj)\nendobj\n")
	prints(t, 1, plain(text("\n")), "1 0 obj\n<0a>\nendobj\n")
	prints(t, 1, plain(name("A b")), "1 0 obj\n/A#20b\nendobj\n")
	prints(t, 1, plain(name("")), "1 0 obj\n/\nendobj\n")
	prints(t, 4096, plain(array(whole(1), ref(2))), "4096 0 obj\n[1 2 0 R]\nendobj\n")
	prints(t, 1, plain(dict(name("Length"), whole(3))), "1 0 obj\n<</Length 3>>\nendobj\n")
	prints(t, 100, plain(ref(100)), "100 0 obj\n100 0 R\nendobj\n")
	prints(t, 12, stream("abc", name("Type"), name("X")), "12 0 obj\n<</Length 3 /Type /X>>\nstream\nabc\nendstream\nendobj\n")
	prints(t, 1, stream(""), "1 0 obj\n<</Length 0>>\nstream\n\nendstream\nendobj\n")
	prints(t, 1, stream("x"), "1 0 obj\n<</Length 1>>\nstream\nx\nendstream\nendobj\n")
	prints(t, 1, stream("\n"), "1 0 obj\n<</Length 1>>\nstream\n\n\nendstream\nendobj\n")
	prints(t, 1, stream("\r\n\x00\xff"), "1 0 obj\n<</Length 4>>\nstream\n\r\n\x00\xff\nendstream\nendobj\n")
	prints(t, 1, stream("endobj", name("A"), null(), name("Z"), null()), "1 0 obj\n<</A null /Length 6 /Z null>>\nstream\nendobj\nendstream\nendobj\n")
	prints(t, 1, stream("\nendstream\nendobj\n1 0 obj", name("a"), array()), "1 0 obj\n<</Length 25 /a []>>\nstream\n\nendstream\nendobj\n1 0 obj\nendstream\nendobj\n")
}

func TestPrintOfEachKind(t *testing.T) { // P14.2: values, and streams, with bytes that look like what stands around them
	for _, v := range goodValues() {
		for _, n := range []int{1, 9, 10, 4096} {
			printsBoth(t, n, plain(v))
		}
		if v.Kind != api.Dict {
			v = dict(name("A"), v)
		}
		if value.Depth(v) > 64 {
			continue
		}
		for _, data := range []string{"", "x", "\n", "\r\n", "endstream", "endobj", "obj", "1 0 obj", "\nendstream\nendobj\n", "stream\n", "\x00", strings.Repeat("endstream ", 500)} {
			printsBoth(t, 12, api.Object{V: v, Stream: true, Data: data})
		}
	}
	for _, s := range nearHows() { // names on either side of those that are put in
		printsBoth(t, 1, stream("x", name(s), whole(1)))
	}
	for n := range 300 { // Length has one, two and three digits
		printsBoth(t, 1, stream(strings.Repeat("\xff", n)))
		printsBoth(t, 1, stream(strings.Repeat("ab\n", n)))
	}
}

func TestPrintNumbers(t *testing.T) { // P14.2: from 1 to 4096; others are ErrArg ahead of all else
	for n := 1; n <= 4096; n++ {
		prints(t, n, plain(whole(7)), fmt.Sprintf("%d 0 obj\n7\nendobj\n", n))
	}
	l := []api.Object{plain(null()), stream("x"), {Data: "x"}, stream("x", name("Length"), whole(1)), stream(strings.Repeat("x", api.MaxData+1))}
	for _, w := range wrongValues() {
		l = append(l, plain(w[0]), frame.Stream(w[0], "x"))
	}
	for _, o := range l {
		for _, n := range []int{0, -1, -4096, 4097, 4098, 65537, 1<<32 + 1, math.MinInt, math.MaxInt} {
			refusesPrint(t, n, o, api.ErrArg)
		}
	}
}

func TestPrintOfWhatMayNotBe(t *testing.T) { // P14.2: Check's error
	for e, l := range wrongValues() {
		for _, v := range l {
			refusesPrint(t, 1, plain(v), e)
			refusesPrint(t, 4096, frame.Stream(v, "x"), e)
		}
	}
	for _, s := range hows() {
		refusesPrint(t, 1, stream("x", name(s), whole(1)), api.ErrArg)
	}
	for _, v := range goodValues() {
		refusesPrint(t, 1, api.Object{V: v, Data: "x"}, api.ErrArg)
		if v.Kind != api.Dict {
			refusesPrint(t, 1, frame.Stream(v, "x"), api.ErrArg)
		}
	}
	refusesPrint(t, 1, stream(strings.Repeat("x", api.MaxData+1)), api.ErrLong)
}

func TestPrintByChance(t *testing.T) { // P14.2
	c := chance{rand.New(rand.NewPCG(14, 2))}
	for range 5000 {
		printsBoth(t, 1+c.IntN(4096), c.object())
	}
}

func TestPackedIsShort(t *testing.T) { // P14.2: Least
	o := stream(strings.Repeat("catchword ", 5000))
	if b, e := frame.Print(1, o, true); len(b) > 500 || e != api.OK {
		t.Error(len(b), e)
	}
	few(t)
	c := chance{rand.New(rand.NewPCG(14, 3))}
	for _, n := range []int{1, 100, 65535, 65536, 200000} { // bytes of which no kind makes less: at most 5 for each 65535, a head and a sum are put to them
		data := make([]byte, n)
		for i := range data {
			data[i] = byte(c.Uint32())
		}
		o := stream(string(data))
		packs(t, 1, o)
		least, _ := frame.Print(1, o, false)
		if b, e := frame.Print(1, o, true); len(b) > len(least)+len(" /Filter /FlateDecode")+6+5*(n/65535+1)+1 || e != api.OK {
			t.Error(n, len(b), len(least), e)
		}
	}
}

func TestPrintOfMuchData(t *testing.T) { // P14.2: 2^24 bytes
	o := stream(strings.Repeat("x", api.MaxData), name("A"), null())
	prints(t, 4096, o, printed(4096, o))
	packs(t, 4096, o)
	for _, packed := range []bool{true, false} {
		b, _ := frame.Print(4096, o, packed)
		b = append(b, "1 0 obj"...)
		if n, p, to, e := frame.Parse(b, 0, false); n != 4096 || !alike(o, p) || to != bytes.LastIndex(b, []byte("endobj"))+6 || e != api.OK {
			t.Error(n, brief(p), to, e)
		}
	}
}

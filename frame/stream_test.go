package frame_test

import (
	"bytes"
	zip "compress/zlib"
	"fmt"
	"math/rand/v2"
	"strings"
	"testing"

	"catchword/api"
	"catchword/deflate"
	"catchword/zlib"
)

// zipped are bytes as the library packs them.
func zipped(s string) string {
	var b bytes.Buffer
	w := zip.NewWriter(&b)
	w.Write([]byte(s))
	w.Close()
	return b.String()
}

// around is a stream's text of a dictionary's names and values, with these bytes, behind a Length that is theirs.
func around(names, data string) string {
	return fmt.Sprintf("7 0 obj<</Length %d%s>>stream\n%s\nendstream endobj", len(data), names, data)
}

// packedText is a stream's text of packed data with a filter.
func packedText(data, filter string) string { return around("/Filter "+filter, zipped(data)) }

func TestStreamsWithData(t *testing.T) { // P14.3
	for _, data := range []string{"", "x", "abc", "\n", "\r", "\r\n", "\x00", "endstream", "endstream endobj", "\nendstream\nendobj\n", "1 0 obj", "stream\n", "%", "(", "<", strings.Repeat("endobj ", 1000)} {
		stands(t, around("", data), 7, stream(data))
		stands(t, around("/A 1/Type/X", data), 7, stream(data, name("A"), whole(1), name("Type"), name("X")))
		stands(t, around("/Z[1 0 R]/a null", data), 7, stream(data, name("Z"), array(ref(1)), name("a"), null()))
		for _, f := range []string{"/FlateDecode", "[/FlateDecode]", "/Fl#61teDecode", "[ %x\n/FlateDecode ]"} {
			stands(t, packedText(data, f), 7, stream(data))
			stands(t, packedText(data, f+"/A 1/G(x)"), 7, stream(data, name("A"), whole(1), name("G"), text("x")))
		}
	}
	for _, s := range nearHows() {
		if s != "" && s != "/Length" && s != "Length " {
			stands(t, around("/"+s+" 7", "abc"), 7, stream("abc", name(s), whole(7)))
		}
	}
}

func TestNoDict(t *testing.T) { // P14.3: a stream's value must be one
	for _, v := range goodValues() {
		if v.Kind != api.Dict {
			for _, s := range []string{"\nabc\nendstream endobj", "\n\nendstream endobj", "\r", "\nab", "x(", " endobj"} {
				fails(t, "7 0 obj "+form(v)+" stream"+s, api.ErrFrame)
			}
		}
	}
	fails(t, "7 0 obj[/Length 3]stream\nabc\nendstream endobj", api.ErrFrame)
	fails(t, "7 0 obj[<</Length 3>>]stream\nabc\nendstream endobj", api.ErrFrame)
}

// behindStream is what may stand behind the word stream; where the dictionary may not be, none of it is asked for.
func behindStream() []string {
	return []string{"\nabc\nendstream endobj", "\r\nabc\nendstream endobj", "\r", "\n", "\nab", "\rabc", " abc", "(", "\nabc )", "\nabc endstream", "\nabcd\nendstream endobj", "\n\xff"}
}

// noStream asks that a stream's dictionary may not be.
func noStream(t *testing.T, names string) {
	t.Helper()
	for _, s := range behindStream() {
		fails(t, "7 0 obj<<"+names+">>stream"+s, api.ErrFrame)
	}
	refuses(t, "7 0 obj<<"+names+">>stream", 0, true, api.ErrFrame)
	refuses(t, "7 0 obj<<"+names+">>stream", 0, false, api.ErrMore)
}

func TestLengths(t *testing.T) { // P14.3: missing, no Int, below 0, too great, more and less than what follows
	for _, names := range []string{"", "/A 1", "/length 3", "/Lengths 3", "/Filter/FlateDecode", "/A<</Length 3>>", "/A/Length"} {
		noStream(t, names)
	}
	for _, n := range []string{"-1", "-3", "-2147483647", "16777217", "2147483647", "3.0", "3.", ".0", "null", "true", "(3)", "<33>", "/3", "3 0 R", "7 0 R", "[3]", "[]", "<<>>", "<</Length 3>>"} {
		noStream(t, "/Length "+n)
		noStream(t, "/A 1/Length "+n+"/Z 2")
		noStream(t, "/Filter/FlateDecode/Length "+n)
	}
	s := "abc def ghi"
	for n := range len(s) {
		fails(t, fmt.Sprintf("7 0 obj<</Length %d>>stream\n%s\nendstream endobj", n, s), api.ErrForm)
	}
	stands(t, "7 0 obj<</Length 11>>stream\n"+s+"\nendstream endobj", 7, stream(s))
	stands(t, "7 0 obj<</Length 011>>stream\n"+s+"\nendstream endobj", 7, stream(s))
	stands(t, "7 0 obj<</Length 12>>stream\n"+s+"\nendstream endobj", 7, stream(s+"\n")) // what stands ahead of the word is space, if any
	fails(t, "7 0 obj<</Length 13>>stream\n"+s+"\nendstream endobj", api.ErrForm)
	all := "7 0 obj<</Length 99>>stream\n" + s + "\nendstream endobj"
	for n := range 3 {
		cut(t, all+strings.Repeat(" ", n))
	}
	cut(t, "7 0 obj<</Length 16777216>>stream\n"+s)
	cut(t, "7 0 obj<</Length 1>>stream\n")
	cut(t, "7 0 obj<</Length 1>>stream\nx")
	cut(t, "7 0 obj<</Length 1>>stream\r\n")
	cut(t, "7 0 obj<</Length 0>>stream\n")
}

func TestDecodeParms(t *testing.T) { // P14.3: none may be
	for _, v := range goodValues() {
		if v.Kind != api.Array || len(v.L) != 1 {
			noStream(t, "/Length 3/DecodeParms "+form(v))
			noStream(t, "/DecodeParms "+form(v)+"/Filter/FlateDecode/Length 3")
		}
	}
	fails(t, packedText("abc", "/FlateDecode/DecodeParms null"), api.ErrFrame)
	fails(t, packedText("abc", "[/FlateDecode]/DecodeParms[null]"), api.ErrFrame)
	stands(t, around("/A<</DecodeParms null/Filter/X>>", "abc"), 7, stream("abc", name("A"), dict(name("DecodeParms"), null(), name("Filter"), name("X"))))
}

func TestFilters(t *testing.T) { // P14.3: those that may not be, whatever the bytes are
	for _, f := range []string{"null", "true", "7", "1.5", "(FlateDecode)", "<466c6174654465636f6465>", "/", "/Fl", "/flatedecode", "/FlateDecode1", "/LZWDecode", "/ASCIIHexDecode", "/Crypt", "7 0 R", "[]", "[null]", "[(FlateDecode)]", "[7 0 R]", "[[/FlateDecode]]", "[/LZWDecode]", "[/FlateDecode/FlateDecode]", "[/ASCII85Decode/FlateDecode]", "[/FlateDecode/LZWDecode]", "[/FlateDecode null]", "[null/FlateDecode]", "<<>>", "<</FlateDecode null>>", "[<</FlateDecode 1>>]"} {
		noStream(t, "/Length 3/Filter "+f)
		noStream(t, "/A 1/Filter "+f+"/Length 3/Z 1")
		fails(t, packedText("abc", f), api.ErrFrame)
	}
}

func TestLineBehindTheWord(t *testing.T) { // P14.3: 10, 13 and 10; not 13 alone, nor any other byte
	for c := range 256 {
		b := string([]byte{byte(c)})
		if c != 10 {
			fails(t, "7 0 obj<</Length 3>>stream\r"+b+"abc\nendstream endobj", api.ErrFrame)
		}
		s := "7 0 obj<</Length 3>>stream" + b + "abc\nendstream endobj"
		if c == 10 {
			stands(t, s, 7, stream("abc"))
		} else {
			fails(t, s, api.ErrFrame) // a regular byte makes it another word, which is no less ErrFrame
		}
		agrees(t, "7 0 obj<</Length 3>>stream"+b, 0)
		agrees(t, "7 0 obj<</Length 3>>stream\r"+b, 0)
		stands(t, "7 0 obj<</Length 1>>stream\n"+b+" endstream endobj", 7, stream(b))
		stands(t, "7 0 obj<</Length 1>>stream\r\n"+b+" endstream endobj", 7, stream(b))
	}
	stands(t, "7 0 obj<</Length 2>>stream\n\r\n endstream endobj", 7, stream("\r\n"))
	stands(t, "7 0 obj<</Length 2>>stream\r\n\r\n endstream endobj", 7, stream("\r\n"))
	stands(t, "7 0 obj<</Length 2>>stream\n\n\r endstream endobj", 7, stream("\n\r"))
	fails(t, "7 0 obj<</Length 0>>stream endstream endobj", api.ErrFrame)
	fails(t, "7 0 obj<</Length 0>>stream%\nendstream endobj", api.ErrFrame)
	fails(t, "7 0 obj<</Length 0>>stream \nendstream endobj", api.ErrFrame)
}

func TestWordsBehindTheBytes(t *testing.T) { // P14.3
	for names, data := range map[string]string{"": "abc", "/A 1": "", "/Filter/FlateDecode": zipped("abc")} {
		s := fmt.Sprintf("7 0 obj<</Length %d%s>>stream\n%s", len(data), names, data)
		for behind, e := range map[string]api.Errno{" endobj ": api.ErrForm, " stream endobj ": api.ErrForm, " endstreams endobj ": api.ErrForm, " Endstream endobj ": api.ErrForm, " /endstream endobj ": api.ErrForm, " (endstream)endobj ": api.ErrForm, "7 endstream endobj ": api.ErrForm, ")": api.ErrForm, "/#0 ": api.ErrName, "4000000000 ": api.ErrRange, " endstream endstream ": api.ErrForm, " endstream obj ": api.ErrForm, " endstream endobj1 ": api.ErrForm, " endstream(endobj)": api.ErrForm, " endstream/endobj ": api.ErrForm, " endstream ) ": api.ErrForm, " endstream /#0 ": api.ErrName, " endstream 4000000000 ": api.ErrRange} {
			fails(t, s+behind, e)
		}
		for _, behind := range []string{"", " ", "%endstream endobj", "\nendstream", "\nendstream ", "\nendstream%endobj", "(endstream endobj", "\nendstream(endobj"} {
			cut(t, s+behind)
		}
	}
}

func TestPackedBytes(t *testing.T) { // P14.3: cut, spoilt, and followed by others
	data := "catchword catchword, endstream"
	for _, p := range []string{zipped(data), zipped(""), pack(t, data, deflate.Stored), pack(t, data, deflate.Fixed), pack(t, data, deflate.Dynamic), pack(t, data, deflate.Least)} {
		want, _, _ := zlib.Unpack([]byte(p), 1<<24)
		for _, f := range []string{"/Filter/FlateDecode", "/Filter[/FlateDecode]"} {
			stands(t, around(f, p), 7, stream(string(want)))
			for _, more := range []string{"x", "\n", "\r\n", p, "\x00", "endstream endobj", strings.Repeat("x", 1000)} {
				stands(t, around(f, p+more), 7, stream(string(want)))
			}
			for n := range len(p) {
				fails(t, around(f, p[:n]), api.ErrFrame)
				fails(t, around(f, p[n+1:]), api.ErrFrame)
			}
		}
		spoils(t, p)
	}
	for _, s := range []string{"", "x", "abc", "\n" + zipped(data), " " + zipped(data), data, "\x78\x9c", "\x78\x9d\x03\x00\x00\x00\x00\x01", "\x78\x9c\x07\x00\x00\x00\x00\x01", "\x78\x9c\x03\x02\x00\x00\x00\x00\x01", "\x78\x9c\x03\x3e\x00\x00\x00\x00", "\x78\x9c\x03\x00\x00\x00\x00\x00"} {
		fails(t, around("/Filter/FlateDecode", s), api.ErrFrame)
		stands(t, around("", s), 7, stream(s)) // without a Filter they are what they are
	}
}

func pack(t *testing.T, data string, kind int) string {
	t.Helper()
	b, e := zlib.Pack([]byte(data), kind)
	if e != api.OK {
		t.Fatal(e)
	}
	return string(b)
}

// spoils asks that packed bytes, of which one is another, are an object or not, as zlib has it.
func spoils(t *testing.T, p string) {
	t.Helper()
	r := rand.New(rand.NewPCG(14, 4))
	for at := range p {
		for range 6 {
			b := []byte(p)
			b[at] ^= byte(1 + r.IntN(255))
			s := around("/Filter/FlateDecode", string(b))
			if data, _, e := zlib.Unpack(b, 1<<24); e == api.OK {
				reads(t, s, 0, true, 7, stream(string(data)), len(s), api.OK)
			} else {
				refuses(t, s, 0, true, api.ErrFrame)
			}
		}
	}
}

func TestMuchPackedData(t *testing.T) { // P14.3: 2^24 bytes, and one more; also of bytes that are not packed
	for n, e := range map[int]api.Errno{1 << 24: api.OK, 1<<24 + 1: api.ErrFrame, 1 << 25: api.ErrFrame} {
		data := strings.Repeat("x", n)
		for _, s := range []string{packedText(data, "/FlateDecode"), packedText(data, "[/FlateDecode]"), around("", data)} {
			if e == api.OK {
				reads(t, s, 0, true, 7, stream(data), len(s), e)
				reads(t, s+"\n", 0, false, 7, stream(data), len(s), e)
			} else {
				refuses(t, s, 0, true, e)
				refuses(t, s+"\n", 0, false, e)
			}
		}
	}
}

func TestPackedBeyondMaxData(t *testing.T) { // P14.2, P14.3: packed bytes that are more than MaxData are printed, but their Length may not be read
	r := rand.New(rand.NewPCG(14, 5))
	data := make([]byte, api.MaxData)
	for i := range data {
		data[i] = byte(r.Uint32())
	}
	o := stream(string(data))
	packs(t, 1, o)
	s := around("/Filter/FlateDecode", pack(t, o.Data, deflate.Stored))
	refuses(t, s, 0, true, api.ErrFrame)
	s = around("", o.Data)
	reads(t, s, 0, true, 7, o, len(s), api.OK)
}

func TestErrorsInTheirOrder(t *testing.T) { // P14.3, R2: as the chapter names them
	spoilt := "\x78\x9c\x07"
	head := "7 0 obj<</Length 3/Filter/FlateDecode>>stream"
	for s, e := range map[string]api.Errno{
		head + "\n" + spoilt + "\nendstream endobj": api.ErrFrame, head + "\n" + spoilt + " endobj ": api.ErrForm, head + "\n" + spoilt + " endstream obj ": api.ErrForm, head + "\n" + spoilt + ")": api.ErrForm, head + "\n" + spoilt + " endstream /#0 ": api.ErrName, head + "x" + spoilt: api.ErrFrame,
		"0 1 obj 7 endobj": api.ErrFrame, "0 0 obb 7 endobj": api.ErrFrame, "0 0 obj ) endobj": api.ErrFrame, "7 1 obb 7 endobj": api.ErrFrame, "7 0 obb ) endobj": api.ErrForm, "7 0 obb 1 2 R endobj": api.ErrForm, "7 0 obj 1 2 R x ": api.ErrRef, "7 0 obj /#0 x ": api.ErrName, "7 x 0 obj": api.ErrForm, "0 x ": api.ErrFrame, "x 1 obj ": api.ErrForm, "4000000000 1 ": api.ErrRange, "7 0 obj<</A 1/A 2>>stream\n": api.ErrKey,
		"7 0 obj<</Length 3/Filter/X>>stream\nabc ) ": api.ErrFrame, "7 0 obj<</Length 9/DecodeParms 1>>stream x": api.ErrFrame, "7 0 obj<</Length 3>>stream xabc ) ": api.ErrFrame, "7 0 obj<</Length 3>>stream\nabc ) ": api.ErrForm,
	} {
		fails(t, s, e)
	}
	for _, s := range []string{head, head + "\r", head + "\n", head + "\n" + spoilt, head + "\n" + spoilt + "\nendstream", head + "\n" + spoilt + "\nendstream "} { // ahead of what the bytes are
		cut(t, s)
	}
	refuses(t, head+"\n"+spoilt+"\nendstream endobj", 0, false, api.ErrMore)
	for _, s := range []string{"0 ", "7 1 ", "7 0 obj<<>>stream\n", "7 0 obj<</Length 3/Filter/X>>stream\n", "7 0 obj 7 stream\n", "7 0 obj<</Length 3>>stream x", "7 0 obj 7 x "} { // nothing more is wanted
		refuses(t, s, 0, false, api.ErrFrame)
	}
}

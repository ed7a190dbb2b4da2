package lz_test

import (
	"math/rand/v2"
	"strings"
	"testing"

	"catchword/api"
	"catchword/lz"
)

// expand is what the chapter's words make of tokens, token by token and byte by byte.
func expand(l []lz.Token, most int) (string, api.Errno) {
	if most < 0 || most > 1<<24 {
		return "", api.ErrArg
	}
	var out strings.Builder
	for _, x := range l {
		single := x.Length == 0
		if !single && (x.Length < 3 || x.Length > 258) {
			return "", api.ErrArg
		}
		if single && x.Far != 0 || !single && (x.Far < 1 || x.Far > 32768 || x.Byte != 0) {
			return "", api.ErrArg
		}
		if !single && x.Far > out.Len() {
			return "", api.ErrFar
		}
		if single && out.Len()+1 > most || out.Len()+x.Length > most {
			return "", api.ErrLong
		}
		if single {
			out.WriteByte(x.Byte)
		}
		for range x.Length {
			out.WriteByte(out.String()[out.Len()-x.Far])
		}
	}
	return out.String(), api.OK
}

// match is how many bytes repeat, by the chapter's words.
func match(b []byte, at, far, most int) int {
	if at < 0 || at > len(b)-1 || far < 1 || far > at {
		return 0
	}
	for n, x := range b[at:] {
		if n >= most || b[at+n-far] != x {
			return max(0, min(n, most))
		}
	}
	return max(0, min(len(b)-at, most))
}

// mustShrink tells whether there must be fewer tokens than bytes: six alike ones, or from 12 to 65536 that are twice the same.
func mustShrink(b []byte) bool {
	run := 0
	for i, x := range b {
		if i > 0 && b[i-1] == x {
			run++
		} else {
			run = 1
		}
		if run == 6 {
			return true
		}
	}
	half := len(b) / 2
	return len(b) >= 12 && len(b) <= 65536 && string(b[:half]) == string(b[half:])
}

// single are tokens of bytes alone.
func single(s string) []lz.Token {
	var l []lz.Token
	for _, x := range []byte(s) {
		l = append(l, lz.Token{Byte: x})
	}
	return l
}

// again is a repetition.
func again(length, far int) lz.Token { return lz.Token{Length: length, Far: far} }

// joined are lists of tokens, one behind the other.
func joined(parts ...[]lz.Token) []lz.Token {
	var l []lz.Token
	for _, p := range parts {
		l = append(l, p...)
	}
	return l
}

// many are tokens of n bytes, n at least 1: a byte, and it again and again, the last time maybe some single ones.
func many(n int) []lz.Token {
	l := single("m")
	for n--; n > 0; {
		k := min(n, 258)
		if k < 3 {
			l, n = append(l, lz.Token{Byte: 'm'}), n-1
			continue
		}
		l, n = append(l, again(k, 1)), n-k
	}
	return l
}

// distinct are n bytes of which no three that follow one another do so twice.
func distinct(seed uint64, n int) []byte {
	r := rand.New(rand.NewPCG(seed, 6))
	seen := map[[3]byte]bool{}
	b := make([]byte, 0, n)
	for len(b) < n {
		b = append(b, byte(r.IntN(256)))
		if len(b) < 3 {
			continue
		}
		key := [3]byte(b[len(b)-3:])
		if seen[key] {
			b = b[:len(b)-1]
		}
		seen[key] = true
	}
	return b
}

// noise are n bytes, each one of so many.
func noise(r *rand.Rand, n, of int) []byte {
	b := make([]byte, n)
	for i := range b {
		b[i] = byte(r.IntN(of))
	}
	return b
}

// tells asks for tokens' bytes.
func tells(t *testing.T, l []lz.Token, most int, want string) {
	t.Helper()
	if b, e := lz.Expand(l, most); string(b) != want || e != api.OK {
		t.Errorf("Expand(%.200v, %d): %.80q, %v; want %.80q", short(l), most, b, e, want)
	}
}

// refuses asks for an error, beside which there are no bytes.
func refuses(t *testing.T, l []lz.Token, most int, want api.Errno) {
	t.Helper()
	if b, e := lz.Expand(l, most); len(b) != 0 || e != want {
		t.Errorf("Expand(%v, %d): %.80q, %v; want %v", short(l), most, b, e, want)
	}
}

// checks asks for what Check says.
func checks(t *testing.T, l []lz.Token, want api.Errno) {
	t.Helper()
	if e := lz.Check(l); e != want {
		t.Errorf("Check(%v): %v; want %v", short(l), e, want)
	}
}

// wrong asks for an error of tokens that have it whatever most is.
func wrong(t *testing.T, l []lz.Token, want api.Errno) {
	t.Helper()
	for _, most := range []int{1 << 20, api.MaxData} {
		refuses(t, l, most, want)
	}
	checks(t, l, want)
}

// short are the last few tokens of a list, to be shown.
func short(l []lz.Token) []lz.Token { return l[max(0, len(l)-4):] }

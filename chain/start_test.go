package chain_test

import (
	"strconv"
	"strings"
	"testing"

	"catchword/api"
	"catchword/chain"
	"catchword/source"
)

// long is a file of so many bytes that ends with s.
func long(n int, s string) string { return strings.Repeat("x", n-len(s)) + s }

func TestStart(t *testing.T) { // P17.1: what stands behind startxref
	for s, at := range map[string]int{
		"startxref 0": 0, "startxref\n7\n%%EOF\n": 7, "startxref\r\n12\r\n%%EOF": 12, "startxref0": 0, "startxref9": 9, "startxref\x00\t\n\f\r 3 ": 3, "startxref%5\n6": 6, "startxref%%EOF\n%5\r6%7": 6, "startxref 007": 7, "startxref +8": 8, "startxref -0": 0, "startxref 5(": 5, "startxref 5]": 5, "startxref 5/A": 5, "startxref 5<": 5, "startxref 5 6": 5, "startxref 5 0 R": 5, "startxref 5 )": 5, "startxref 5 trailer": 5,
		"xstartxref 4": 4, "7startxref 4": 4, "/startxref 4": 4, "%startxref 4": 4, "(startxref 4)": 4, "startstartxref 4": 4, "startxrefstartxref 4": 4, "startxref 3 startxref 4": 4, "startxref(startxref 4": 4,
	} {
		starts(t, all(s), at, 0, api.OK)
		starts(t, all(long(64, s)), at, 0, api.OK)
		starts(t, all(long(1000, s)), at, 0, api.OK)
	}
}

func TestStartAtEachPlace(t *testing.T) { // P17.1: from 0 to Total - 1
	for at := range 30 {
		s := "startxref " + strconv.Itoa(at)
		if at < len(s) {
			starts(t, all(s), at, 0, api.OK)
		} else {
			starts(t, all(s), 0, 0, api.ErrStart)
		}
		starts(t, all(long(at+64, s)), at, 0, api.OK)
	}
	for _, n := range []int{20, 63, 64, 65, 100, 1000, 70000} {
		for at, e := range map[int]api.Errno{0: api.OK, 1: api.OK, n - 2: api.OK, n - 1: api.OK, n: api.ErrStart, n + 1: api.ErrStart, -1: api.ErrStart, most: api.ErrStart, most + 1: api.ErrStart, -most: api.ErrStart} {
			s := "startxref " + strconv.Itoa(at)
			if len(s) > n {
				continue
			}
			if e != api.OK {
				at = 0
			}
			starts(t, all(long(n, s)), at, 0, e)
		}
	}
}

func TestNoStart(t *testing.T) { // P17.1: ErrStart, as it is not there, or no whole number is behind it
	for _, s := range []string{"", "0", "x", "startxre", "startxre 0", "tartxref 0", "Startxref 0", "STARTXREF 0", "start xref 0", "startxre\nf 0", "startref 0", "startxrfe 0", "xref 0"} {
		starts(t, all(s), 0, 0, api.ErrStart)
		starts(t, all(long(90, s)), 0, 0, api.ErrStart)
	}
	for _, s := range []string{"", " ", "\n%0", "x", " x0", "\n%%EOF", "/0", "(0)", "<30>", "[0]", "<<0>>", " 0.", " .0", " 1.5", " 5x", " 0x0", " -", "-1", " +-1", " --1", " 1-2", "2147483647", "2147483648", " 99999999999999999999", " null", " true", "obj", ")", "]", ">", ">>", "(", "<", "[", "{", "}", "/#"} {
		starts(t, all("startxref"+s), 0, 0, api.ErrStart)
		starts(t, all("0 startxref"+s), 0, 0, api.ErrStart)
		starts(t, all("startxref 0 startxref"+s), 0, 0, api.ErrStart) // the last ones count
		starts(t, all(long(90, "startxref 0 startxref"+s)), 0, 0, api.ErrStart)
	}
}

func TestStartInTheLastBytes(t *testing.T) { // P17.1: in the last 64 bytes, with all nine
	for behind := range 80 {
		s := "startxref" + long(behind+3, "") + "startxref 5"
		starts(t, all(s), 5, 0, api.OK)
		s = "startxref 5" + strings.Repeat(" ", behind)
		e, at := api.OK, 5
		if len(s) > 64 {
			e, at = api.ErrStart, 0
		}
		starts(t, all(s), at, 0, e)
		starts(t, all(long(200, s)), at, 0, e)
		starts(t, all("startxref 5 "+long(200, s)), at, 0, e)
	}
	starts(t, all("startxref 1 startxref 2 "+strings.Repeat(" ", 52)), 2, 0, api.OK)
	starts(t, all("startxref 1 startxref 2 "+strings.Repeat(" ", 53)), 0, 0, api.ErrStart)
}

func TestStartOfUnknownBytes(t *testing.T) { // P17.1: the first of the last 64 bytes that is not known
	for _, n := range []int{11, 12, 20, 63, 64, 65, 66, 100, 300} {
		p := all(long(n, "startxref 5"))
		tail := max(0, n-64)
		starts(t, p, 5, 0, api.OK)
		starts(t, none(p.s), 0, tail, api.ErrMore)
		for at := range n {
			want, e, start := at, api.ErrMore, 0
			if at < tail {
				want, e, start = 0, api.OK, 5
			}
			starts(t, p.but(at, at+1), start, want, e)
			starts(t, p.but(at, n), 0, max(at, tail), api.ErrMore)
			starts(t, p.but(0, at), map[bool]int{true: 5, false: 0}[at <= tail], map[bool]int{true: 0, false: tail}[at <= tail], map[bool]api.Errno{true: api.OK, false: api.ErrMore}[at <= tail])
			starts(t, p.but(at, at+1).but(n-1, n), 0, max(tail, map[bool]int{true: at, false: n - 1}[at >= tail]), api.ErrMore)
		}
	}
	for _, s := range []string{"x", "startxref", "startxref )", "startxref -1"} { // wrong ones too
		for at := range s {
			starts(t, all(s).but(at, at+1), 0, at, api.ErrMore)
			starts(t, all(long(80, s)).but(80-len(s)+at, 80), 0, 80-len(s)+at, api.ErrMore)
		}
	}
}

func TestStartOfTheGreatestFile(t *testing.T) { // P17.1
	for s, at := range map[string]int{"startxref 2147483646": most - 1, "startxref 0 ": 0} {
		f, _ := source.New(most)
		f.Put(most-len(s), []byte(s))
		if n, want, e := chain.Start(f); n != 0 || want != most-64 || e != api.ErrMore {
			t.Error(n, want, e)
		}
		f.Put(most-64, []byte(strings.Repeat(" ", 64)))
		if n, want, e := chain.Start(f); n != at || want != 0 || e != api.OK {
			t.Error(n, want, e)
		}
	}
	f, _ := source.New(most)
	f.Put(most-64, []byte(long(64, "startxref 2147483647")))
	if n, want, e := chain.Start(f); n != 0 || want != 0 || e != api.ErrStart {
		t.Error(n, want, e)
	}
}

package num_test

import (
	"fmt"
	"math"
	"math/rand/v2"
	"testing"

	"catchword/api"
	"catchword/num"
)

// prints asks for Print's answer, of a number that may be.
func prints(t *testing.T, v api.Value, want string) {
	t.Helper()
	if e := num.Check(v); e != api.OK {
		t.Errorf("Check(%v): %v", v, e)
	}
	if s, e := num.Print(v); s != want || e != api.OK {
		t.Errorf("Print(%v): %q, %v, want %q", v, s, e, want)
	}
}

// refuses asks that a value may be no number.
func refuses(t *testing.T, v api.Value) {
	t.Helper()
	if e := num.Check(v); e != api.ErrArg {
		t.Errorf("Check(%v): %v", v, e)
	}
	if s, e := num.Print(v); s != "" || e != api.ErrArg {
		t.Errorf("Print(%v): %q, %v", v, s, e)
	}
}

func TestPrintOfWholeNumbers(t *testing.T) { // P9.2
	for n, s := range map[int]string{0: "0", 1: "1", -1: "-1", 7: "7", 10: "10", -10: "-10", 100: "100", 1000000: "1000000", -1000000: "-1000000", 1234567890: "1234567890",
		most - 1: "2147483646", most: "2147483647", 1 - most: "-2147483646", -most: "-2147483647"} {
		prints(t, whole(n), s)
	}
}

func TestPrintOfMillionths(t *testing.T) { // P9.2, and the chapter's example
	for n, s := range map[int]string{500000: "0.5", 0: "0.0", 1: "0.000001", -1: "-0.000001", 10: "0.00001", -2000: "-0.002", 100000: "0.1", 123456: "0.123456", -123456: "-0.123456", 999999: "0.999999", 100001: "0.100001", 50000: "0.05", 10100: "0.0101",
		1000000: "1.0", -1000000: "-1.0", 4000000: "4.0", 10000000: "10.0", 1000001: "1.000001", 1100000: "1.1", 34500000: "34.5", 1999999: "1.999999", -1500000: "-1.5", 120034000: "120.034",
		most: "2147.483647", most + 1: "2147.483648", mostReal - 1: "2147483646.999999", mostReal: "2147483647.0", 1 - mostReal: "-2147483646.999999", -mostReal: "-2147483647.0"} {
		prints(t, millionths(n), s)
	}
}

func TestPrintOfManyNumbers(t *testing.T) { // P9.2
	for n := -20000; n <= 20000; n++ {
		for _, v := range []api.Value{whole(n), millionths(n), millionths(100 * n), millionths(n * 1000), millionths(n*100000 + n)} {
			prints(t, v, text(v))
		}
	}
	r := rand.New(rand.NewPCG(9, 2))
	for range 100000 {
		v := whole(r.IntN(2*most+1) - most)
		prints(t, v, text(v))
		v = millionths(r.IntN(2*mostReal+1) - mostReal)
		prints(t, v, text(v))
	}
}

func TestCheckOutsideTheBounds(t *testing.T) { // P9.2
	for _, n := range []int{most + 1, -most - 1, most + 2, 1 << 32, -1 << 32, 1<<32 + 1, mostReal, -mostReal, math.MaxInt, math.MinInt, math.MinInt + 1} {
		refuses(t, whole(n))
	}
	for _, n := range []int{mostReal + 1, -mostReal - 1, mostReal + 999999, mostReal + 1000000, 1 << 52, -1 << 52, math.MaxInt, math.MinInt, math.MinInt + 1} {
		refuses(t, millionths(n))
	}
}

func TestCheckOfOtherKinds(t *testing.T) { // P9.2
	for _, kind := range []int{api.Null, api.Bool, api.String, api.Name, api.Array, api.Dict, api.Ref, 9, -1, -2, -3, 1<<32 + 2, 1<<32 + 3, math.MaxInt, math.MinInt} {
		for _, n := range []int{0, 1, -1, 7, most, most + 1} {
			refuses(t, api.Value{Kind: kind, N: n})
		}
	}
}

func TestCheckOfWhatANumberHasNot(t *testing.T) { // P9.2: S is empty, and L has none
	for _, v := range []api.Value{whole(7), millionths(7), whole(0), millionths(0), whole(most), millionths(-mostReal)} {
		for _, s := range []string{"7", "0", "\x00", " "} {
			refuses(t, api.Value{Kind: v.Kind, N: v.N, S: s})
		}
		refuses(t, api.Value{Kind: v.Kind, N: v.N, L: []api.Value{{}}})
		refuses(t, api.Value{Kind: v.Kind, N: v.N, L: []api.Value{v, v}})
		refuses(t, api.Value{Kind: v.Kind, N: v.N, S: "7", L: []api.Value{v}})
		prints(t, api.Value{Kind: v.Kind, N: v.N, L: []api.Value{}}, text(v)) // no list and an empty one are one
	}
}

// pads asks for Pad's answer.
func pads(t *testing.T, n, digits int, want string, e api.Errno) {
	t.Helper()
	if s, got := num.Pad(n, digits); s != want || got != e {
		t.Errorf("Pad(%d, %d): %q, %v, want %q, %v", n, digits, s, got, want, e)
	}
}

func TestPad(t *testing.T) { // P9.3
	pads(t, 42, 10, "0000000042", api.OK)
	pads(t, 0, 1, "0", api.OK)
	pads(t, 0, 2, "00", api.OK)
	pads(t, 0, 20, "00000000000000000000", api.OK)
	pads(t, 7, 1, "7", api.OK)
	pads(t, 9, 20, "00000000000000000009", api.OK)
	pads(t, 99, 2, "99", api.OK)
	pads(t, 100, 3, "100", api.OK)
	pads(t, 100, 4, "0100", api.OK)
	pads(t, 65535, 5, "65535", api.OK)
	pads(t, most, 10, "2147483647", api.OK)
	pads(t, most+1, 10, "2147483648", api.OK)
	pads(t, 9999999999, 10, "9999999999", api.OK)
	pads(t, math.MaxInt, 19, "9223372036854775807", api.OK)
	pads(t, math.MaxInt, 20, "09223372036854775807", api.OK)
}

func TestPadOfWhatMayNotBe(t *testing.T) { // P9.3
	for _, n := range []int{-1, -2, -10, -most, math.MinInt, math.MinInt + 1} {
		for _, digits := range []int{-1, 0, 1, 2, 10, 20, 21} {
			pads(t, n, digits, "", api.ErrArg)
		}
	}
	for _, digits := range []int{0, -1, -2, 21, 22, 100, 1 << 32, 1<<32 + 1, math.MaxInt, math.MinInt} {
		for _, n := range []int{-1, 0, 1, 42, math.MaxInt} {
			pads(t, n, digits, "", api.ErrArg)
		}
	}
	pads(t, 10, 1, "", api.ErrArg)
	pads(t, 100, 2, "", api.ErrArg)
	pads(t, 65536, 4, "", api.ErrArg)
	pads(t, 10000000000, 10, "", api.ErrArg)
	pads(t, math.MaxInt, 18, "", api.ErrArg)
	pads(t, math.MaxInt, 1, "", api.ErrArg)
}

func TestPadOfEachLength(t *testing.T) { // P9.3: as many digits as n has, one more, one less
	for size, n := 1, 1; size <= 19; size, n = size+1, n*10 {
		for _, x := range []int{n, n + 1, n * 3, n*9 + (n - 1)} {
			if x < n { // it went around
				continue
			}
			for digits := 1; digits <= 20; digits++ {
				want, e := fmt.Sprintf("%0*d", digits, x), api.OK
				if digits < size {
					want, e = "", api.ErrArg
				}
				pads(t, x, digits, want, e)
			}
		}
	}
}

func TestPadComesBack(t *testing.T) { // P9.3: Digits reads what Pad writes
	r := rand.New(rand.NewPCG(9, 3))
	for range 20000 {
		n := r.IntN(most) >> r.IntN(31)
		for digits := 10; digits <= 20; digits++ {
			s, e := num.Pad(n, digits)
			if e != api.OK || len(s) != digits {
				t.Errorf("Pad(%d, %d): %q, %v", n, digits, s, e)
			}
			counts(t, s, n, api.OK)
		}
	}
}

// comesBack asks that a number comes back from its text.
func comesBack(t *testing.T, v api.Value) {
	t.Helper()
	s, e := num.Print(v)
	if e != api.OK {
		t.Errorf("Print(%v): %v", v, e)
	}
	parses(t, s, v, api.OK)
}

func TestNumbersComeBack(t *testing.T) { // P9.4
	for _, n := range []int{0, 1, -1, 9, 10, 999999, 1000000, -1000000, most, -most, most - 1, 1 - most} {
		comesBack(t, whole(n))
		comesBack(t, millionths(n))
		comesBack(t, millionths(n*1000000))
	}
	r := rand.New(rand.NewPCG(9, 4))
	for range 100000 {
		comesBack(t, whole((r.IntN(2*most+1)-most)>>r.IntN(31)))
		comesBack(t, millionths((r.IntN(2*mostReal+1)-mostReal)>>r.IntN(51)))
	}
	for n := -10000; n <= 10000; n++ {
		comesBack(t, whole(n))
		comesBack(t, millionths(n))
		comesBack(t, millionths(n*1000))
	}
}

func TestReadMillionthsArePrinted(t *testing.T) { // P9.4: with zeros behind, and digits that do not count, too
	r := rand.New(rand.NewPCG(9, 5))
	for range 100000 {
		n, part := r.IntN(most)>>r.IntN(31), r.IntN(1000000)
		sign, s := "", fmt.Sprintf("%d.%06d", n, part)
		if r.IntN(2) == 0 && n+part > 0 {
			sign = "-"
		}
		v, e := num.Parse(sign + "00" + s + fmt.Sprint(r.IntN(1000)))
		if e != api.OK || v.Kind != api.Real {
			t.Errorf("%s%s: %v, %v", sign, s, v, e)
		}
		p, e := num.Print(v)
		front, behind := 0, ""
		if k, _ := fmt.Sscanf(p[len(sign):], "%d.%s", &front, &behind); e != api.OK || p[:len(sign)] != sign || k != 2 || front != n || len(behind) > 6 || (behind + "00000")[:6] != s[len(s)-6:] {
			t.Errorf("%s%s: %q, %v", sign, s, p, e)
		}
	}
}

package inflate_test

import (
	"math"
	"slices"
	"testing"

	"catchword/inflate"
)

func TestLength(t *testing.T) { // P5.2
	for s, want := range map[int][2]int{257: {3, 0}, 258: {4, 0}, 264: {10, 0}, 265: {11, 1}, 266: {13, 1}, 268: {17, 1}, 269: {19, 2}, 272: {31, 2}, 273: {35, 3}, 277: {67, 4}, 280: {115, 4}, 281: {131, 5}, 284: {227, 5}, 285: {258, 0}} {
		if x, n, ok := inflate.Length(s); x != want[0] || n != want[1] || !ok {
			t.Errorf("Length(%d): %d, %d, %v", s, x, n, ok)
		}
	}
	for i, want := range lengthTable {
		if x, n, ok := inflate.Length(257 + i); x != want.number || n != want.bits || !ok {
			t.Errorf("Length(%d): %d, %d, %v", 257+i, x, n, ok)
		}
	}
	for _, s := range []int{256, 286, 287, 255, 0, 1, -1, -257, 288, 400, 513, 1 << 32, 1<<32 + 257, math.MinInt, math.MaxInt} {
		if x, n, ok := inflate.Length(s); x != 0 || n != 0 || ok {
			t.Errorf("Length(%d): %d, %d, %v", s, x, n, ok)
		}
	}
}

func TestDistance(t *testing.T) { // P5.2
	for s, want := range map[int][2]int{0: {1, 0}, 1: {2, 0}, 3: {4, 0}, 4: {5, 1}, 5: {7, 1}, 6: {9, 2}, 28: {16385, 13}, 29: {24577, 13}} {
		if x, n, ok := inflate.Distance(s); x != want[0] || n != want[1] || !ok {
			t.Errorf("Distance(%d): %d, %d, %v", s, x, n, ok)
		}
	}
	for s, want := range distanceTable {
		if x, n, ok := inflate.Distance(s); x != want.number || n != want.bits || !ok {
			t.Errorf("Distance(%d): %d, %d, %v", s, x, n, ok)
		}
	}
	for _, s := range []int{-1, 30, 31, 32, 257, -30, 1 << 32, 1<<32 + 3, math.MinInt, math.MaxInt} {
		if x, n, ok := inflate.Distance(s); x != 0 || n != 0 || ok {
			t.Errorf("Distance(%d): %d, %d, %v", s, x, n, ok)
		}
	}
}

func TestNumbersOfSymbolsLeaveNoneOut(t *testing.T) { // P5.2: 3 to 257 and 258, 1 to 32768
	next := 3
	for s := 257; s < 285; s++ {
		x, n, _ := inflate.Length(s)
		if x != next {
			t.Errorf("Length(%d): %d, want %d", s, x, next)
		}
		next += 1 << n
	}
	if next != 259 {
		t.Error(next)
	}
	next = 1
	for s := range 30 {
		x, n, _ := inflate.Distance(s)
		if x != next {
			t.Errorf("Distance(%d): %d, want %d", s, x, next)
		}
		next += 1 << n
	}
	if next != 32769 {
		t.Error(next)
	}
}

func TestFixed(t *testing.T) { // P5.2
	a, b := inflate.Fixed()
	if len(a) != 288 || len(b) != 30 {
		t.Fatal(len(a), len(b))
	}
	for s, want := range map[int]int{0: 8, 143: 8, 144: 9, 255: 9, 256: 7, 279: 7, 280: 8, 287: 8} {
		if a[s] != want {
			t.Errorf("symbol %d: %d", s, a[s])
		}
	}
	c, d := fixedLengths()
	if !slices.Equal(a, c) || !slices.Equal(b, d) {
		t.Error(a, b)
	}
}

func TestOrder(t *testing.T) { // P5.2
	if l := inflate.Order(); !slices.Equal(l, lengthOrder) {
		t.Error(l)
	}
}

func TestListsAreNobodyElses(t *testing.T) { // P5.2 by rule R3
	b := pack(head(true, 2) + dynamic(lengths(257, 1, 256, 97), lengths(1, 0)) + "01")
	for range 2 {
		a, d := inflate.Fixed()
		o := inflate.Order()
		for _, l := range [][]int{a, d, o} {
			l = l[:cap(l)]
			for i := range l {
				l[i] = 7
			}
		}
		unpacks(t, []byte{75, 4, 0}, 1, "a", 3)
		unpacks(t, b, 1, "a", len(b))
	}
	TestFixed(t)
	TestOrder(t)
}

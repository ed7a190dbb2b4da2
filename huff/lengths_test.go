package huff_test

import (
	"math"
	"math/rand/v2"
	"slices"
	"testing"

	"catchword/api"
	"catchword/huff"
)

// long is the greatest count.
const long = 1<<31 - 1

// suit asks for counts' lengths, and holds them against the chapter's words.
func suit(t *testing.T, counts []int, most int) {
	t.Helper()
	l, e := huff.Lengths(counts, most)
	if e != api.OK || len(l) != len(counts) {
		t.Fatalf("Lengths(%v, %d): %v, %v", counts, most, l, e)
	}
	used := 0
	for s, c := range counts {
		if l[s] < 0 || l[s] > most || l[s] > 0 != (c > 0) {
			t.Fatalf("Lengths(%v, %d): %v: symbol %d", counts, most, l, s)
		}
		if c > 0 {
			used++
		}
	}
	if used == 1 && slices.Max(l) != 1 {
		t.Errorf("Lengths(%v, %d): %v, of a single one", counts, most, l)
	}
	if used > 1 && !huff.Complete(l) {
		t.Errorf("Lengths(%v, %d): %v are not complete", counts, most, l)
	}
	for a, x := range counts {
		for b, y := range counts {
			if y > 0 && x > y && l[a] > l[b] {
				t.Fatalf("Lengths(%v, %d): %v: symbol %d has more bits than %d", counts, most, l, a, b)
			}
		}
	}
	again, _ := huff.Lengths(counts, most)
	if !slices.Equal(l, again) {
		t.Errorf("Lengths(%v, %d): %v, then %v", counts, most, l, again)
	}
}

// refusesCounts asks that counts are refused.
func refusesCounts(t *testing.T, counts []int, most int) {
	t.Helper()
	if l, e := huff.Lengths(counts, most); len(l) != 0 || e != api.ErrArg {
		t.Errorf("Lengths(%v, %d): %v, %v", counts, most, l, e)
	}
}

// lengthsAre asks for just these lengths.
func lengthsAre(t *testing.T, counts []int, most int, want ...int) {
	t.Helper()
	if l, e := huff.Lengths(counts, most); e != api.OK || !slices.Equal(l, want) {
		t.Errorf("Lengths(%v, %d): %v, %v, want %v", counts, most, l, e, want)
	}
}

// sums are counts each of which is those ahead together, so that codes without a bound are as long as may be.
func sums(n int) []int {
	l := []int{1, 1}
	for len(l) < n {
		l = append(l, l[len(l)-1]+l[len(l)-2])
	}
	return l
}

// doubles are counts each of which is twice the one ahead.
func doubles(n int) []int {
	var l []int
	for k := range n {
		l = append(l, 1<<k)
	}
	return l
}

func TestLengthsOfNoneAndOfOne(t *testing.T) { // P4.3
	for most := 1; most <= 15; most++ {
		lengthsAre(t, []int{0}, most, 0)
		lengthsAre(t, []int{0, 0, 0}, most, 0, 0, 0)
		lengthsAre(t, same(320, 0), most, same(320, 0)...)
		lengthsAre(t, []int{1}, most, 1)
		lengthsAre(t, []int{long}, most, 1)
		lengthsAre(t, []int{0, 7, 0}, most, 0, 1, 0)
		lengthsAre(t, append(same(319, 0), 3), most, append(same(319, 0), 1)...)
		lengthsAre(t, []int{1, 9}, most, 1, 1)
		lengthsAre(t, []int{0, long, 0, 1}, most, 0, 1, 0, 1)
	}
}

func TestLengthsWhereNoOthersMayBe(t *testing.T) { // P4.3: of counts of which all are above 0, and as many as 2^most
	for most := 1; most <= 8; most++ {
		n := 1 << most
		lengthsAre(t, same(n, 5), most, same(n, most)...)
		rnd := rand.New(rand.NewPCG(uint64(most), 8))
		l := make([]int, n)
		for i := range l {
			l[i] = 1 + rnd.IntN(long)
		}
		lengthsAre(t, l, most, same(n, most)...)
		suit(t, append(l, 0), most)
	}
	lengthsAre(t, []int{3, 2, 1}, 2, 1, 2, 2)
	lengthsAre(t, []int{1, 2, 3}, 2, 2, 2, 1)
}

func TestLengthsThatMayNotBeAskedFor(t *testing.T) { // P4.3: counts, and most
	for _, most := range []int{1, 15} {
		refusesCounts(t, nil, most)
		refusesCounts(t, []int{}, most)
		refusesCounts(t, same(321, 0), most)
		refusesCounts(t, append([]int{1}, same(320, 0)...), most)
		refusesCounts(t, same(5000, 0), most)
		for _, c := range []int{-1, -2, math.MinInt, long + 1, long + 2, 1 << 32, math.MaxInt} {
			refusesCounts(t, []int{c}, most)
			refusesCounts(t, []int{c, 0}, most)
			refusesCounts(t, []int{0, c}, most)
			refusesCounts(t, []int{1, c}, most)
			refusesCounts(t, append(same(319, 0), c), most)
		}
	}
	for _, most := range []int{0, 16, 17, 31, 32, 63, 64, 65, math.MaxInt, -1, -15, math.MinInt} {
		refusesCounts(t, []int{0}, most)
		refusesCounts(t, []int{1}, most)
		refusesCounts(t, []int{1, 1}, most)
		refusesCounts(t, same(320, 1), most)
		refusesCounts(t, nil, most)
	}
}

func TestLengthsOfMoreCountsThanCodes(t *testing.T) { // P4.3: above 2^most, and just as many
	for most := 1; most <= 8; most++ {
		n := 1 << most
		refusesCounts(t, same(n+1, 1), most)
		refusesCounts(t, same(320, 1), most)
		refusesCounts(t, append(same(n, 1), 0, 0, long), most)
		suit(t, same(n, 1), most)
		suit(t, append(same(n, long), same(320-n, 0)...), most)
		suit(t, append(same(320-n, 0), same(n, long)...), most)
		suit(t, same(n-1, 1), most)
	}
	for most := 9; most <= 15; most++ {
		suit(t, same(320, 1), most)
		suit(t, same(320, long), most)
	}
}

func TestLengthsAboveMost(t *testing.T) { // P4.3: the least would want longer codes than may be
	for n := 2; n <= 31; n++ {
		for most := 1; most <= 15; most++ {
			for _, l := range [][]int{sums(n), doubles(n)} {
				if n > 1<<most {
					refusesCounts(t, l, most)
					continue
				}
				suit(t, l, most)
				suit(t, append(l, 0), most)
				slices.Reverse(l)
				suit(t, l, most)
			}
		}
	}
	lengthsAre(t, doubles(16), 15, 15, 15, 14, 13, 12, 11, 10, 9, 8, 7, 6, 5, 4, 3, 2, 1)
	lengthsAre(t, doubles(4), 3, 3, 3, 2, 1)
	lengthsAre(t, doubles(4), 2, 2, 2, 2, 2)
	for _, most := range []int{9, 10, 15} {
		l := append(sums(45), same(275, 1)...)
		for i := range l {
			l[i] = min(l[i], long)
		}
		suit(t, l, most)
	}
}

func TestLengthsOfAllShortLists(t *testing.T) { // P4.3
	for n := 1; n <= 5; n++ {
		for _, l := range lists(n, 4) {
			used := 0
			for _, c := range l {
				used += min(c, 1)
			}
			for _, most := range []int{1, 2, 3, 4, 15} {
				if used > 1<<most {
					refusesCounts(t, l, most)
				} else {
					suit(t, l, most)
				}
			}
		}
	}
}

func TestLengthsOfManyLists(t *testing.T) { // P4.3
	for seed := range uint64(300) {
		rnd := rand.New(rand.NewPCG(seed, 9))
		l := make([]int, 1+rnd.IntN(320))
		used, steep := 0, rnd.IntN(31)
		for i := range l {
			if rnd.IntN(4) > 0 {
				l[i] = rnd.IntN(1<<31) >> rnd.IntN(steep+1)
			}
			used += min(l[i], 1)
		}
		for most := 1; most <= 15; most++ {
			if used > 1<<most {
				refusesCounts(t, l, most)
			} else {
				suit(t, l, most)
			}
		}
	}
}

func TestLengthsOfMuchMoreOrLess(t *testing.T) { // P4.3: one count far above all others, and far below
	for most := 9; most <= 15; most++ {
		suit(t, append(same(319, 1), long), most)
		suit(t, append(same(319, long), 1), most)
		suit(t, append(same(160, 1), same(160, long)...), most)
	}
}

func TestCountsAreNeitherChangedNorHandedOut(t *testing.T) { // P4.3 by rule R3
	room := []int{4, 1, 2, 1, 9, 9}
	a, _ := huff.Lengths(room[:4], 3)
	b, _ := huff.Lengths(room[:4], 3)
	if !slices.Equal(room, []int{4, 1, 2, 1, 9, 9}) {
		t.Error(room)
	}
	clear(room)
	clear(a[:cap(a)])
	if !slices.Equal(b, []int{1, 3, 2, 3}) {
		t.Error(b)
	}
}

func TestCountsCodesAreReadAgain(t *testing.T) { // P4.5: codes of counts' lengths, too
	for seed := range uint64(40) {
		rnd := rand.New(rand.NewPCG(seed, 10))
		counts := make([]int, 2+rnd.IntN(300))
		for i := range counts {
			counts[i] = rnd.IntN(1000) >> rnd.IntN(11)
		}
		l, _ := huff.Lengths(counts, 15)
		u, codes := table(t, l...), words(l)
		for _, c := range codes {
			getsAll(t, u, codes, c)
		}
	}
}

package span_test

import (
	"math"
	"math/rand/v2"
	"slices"
	"testing"

	"catchword/api"
	"catchword/span"
)

const most = 1<<31 - 1

// of is the span from a place up to another one.
func of(from, to int) api.Span { return api.Span{From: from, To: to} }

// same asks for just these spans.
func same(t *testing.T, what string, got []api.Span, want ...api.Span) {
	t.Helper()
	if !slices.Equal(got, want) {
		t.Errorf("%s: %v, want %v", what, got, want)
	}
}

// noSpans are spans without numbers, the ends of int among them.
func noSpans() []api.Span {
	return []api.Span{{}, of(7, 7), of(7, 6), of(7, 0), of(7, -1), of(-1, 5), of(-5, -1), of(-1, 0), of(-1, 1), of(-7, -9),
		of(math.MinInt, math.MaxInt), of(math.MinInt, math.MinInt), of(-1, math.MaxInt), of(math.MaxInt, math.MaxInt), of(math.MaxInt, math.MinInt), of(0, math.MinInt), of(math.MaxInt, 0)}
}

// adds asks for a sum.
func adds(t *testing.T, want int, e api.Errno, l ...int) {
	t.Helper()
	if n, got := span.Add(l...); n != want || got != e {
		t.Errorf("Add(%v): %d, %v, want %d, %v", l, n, got, want, e)
	}
}

func TestAdd(t *testing.T) { // P2.1
	adds(t, 0, api.OK)
	adds(t, 0, api.OK, 0)
	adds(t, 0, api.OK, 0, 0, 0)
	adds(t, 7, api.OK, 7)
	adds(t, 10, api.OK, 1, 2, 3, 4)
	adds(t, most, api.OK, most)
	adds(t, most, api.OK, most, 0)
	adds(t, most, api.OK, 0, most-1, 1)
	adds(t, most, api.OK, 1<<30, 1<<30-1)
}

func TestAddOfTooMuch(t *testing.T) { // P2.1: above MaxFile, at the ends of int, too
	adds(t, 0, api.ErrRange, most+1)
	adds(t, 0, api.ErrRange, most, 1)
	adds(t, 0, api.ErrRange, 1, most)
	adds(t, 0, api.ErrRange, 1<<30, 1<<30)
	adds(t, 0, api.ErrRange, most, 0, 0, 1)
	adds(t, 0, api.ErrRange, math.MaxInt)
	adds(t, 0, api.ErrRange, math.MaxInt, 1)
	adds(t, 0, api.ErrRange, 1, math.MaxInt)
	adds(t, 0, api.ErrRange, math.MaxInt, math.MaxInt, 2)
	adds(t, 0, api.ErrRange, 1<<62, 1<<62, 1<<62, 1<<62)
	adds(t, 0, api.ErrRange, 1<<62, 1<<62, 1<<62, 1<<62, 5)
}

func TestAddOfNumbersBelow0(t *testing.T) { // P2.1: ErrArg is named first, wherever the number stands
	adds(t, 0, api.ErrArg, -1)
	adds(t, 0, api.ErrArg, math.MinInt)
	adds(t, 0, api.ErrArg, 5, -5)
	adds(t, 0, api.ErrArg, -5, 5)
	adds(t, 0, api.ErrArg, 1, -1, 1)
	adds(t, 0, api.ErrArg, most, 1, -1)
	adds(t, 0, api.ErrArg, -1, most, 1)
	adds(t, 0, api.ErrArg, most, -1, 1)
	adds(t, 0, api.ErrArg, math.MaxInt, math.MaxInt, math.MinInt)
}

func TestAddChangesNoList(t *testing.T) { // P2.1 by rule R3
	room := []int{1, 2, 3, 4, 5}
	l := room[1:3]
	adds(t, 5, api.OK, l...)
	if !slices.Equal(room, []int{1, 2, 3, 4, 5}) {
		t.Error(room)
	}
}

func TestMul(t *testing.T) { // P2.1
	for _, x := range []struct {
		a, b, want int
		e          api.Errno
	}{
		{0, 0, 0, api.OK}, {0, 1, 0, api.OK}, {1, 1, 1, api.OK}, {6, 7, 42, api.OK},
		{0, math.MaxInt, 0, api.OK}, {0, most + 1, 0, api.OK}, {1, most, most, api.OK}, {1, most - 1, most - 1, api.OK},
		{46340, 46341, 46340 * 46341, api.OK}, {1 << 15, 1<<16 - 1, 1<<31 - 1<<15, api.OK}, {3, most / 3, most / 3 * 3, api.OK},
		{1, most + 1, 0, api.ErrRange}, {2, 1 << 30, 0, api.ErrRange}, {46341, 46341, 0, api.ErrRange}, {1 << 15, 1 << 16, 0, api.ErrRange},
		{3, most/3 + 1, 0, api.ErrRange}, {most, most, 0, api.ErrRange}, {1, math.MaxInt, 0, api.ErrRange},
		{1 << 32, 1 << 32, 0, api.ErrRange}, {1 << 62, 4, 0, api.ErrRange}, {1<<62 + 1, 4, 0, api.ErrRange}, {math.MaxInt, math.MaxInt, 0, api.ErrRange},
		{-1, 0, 0, api.ErrArg}, {-1, 1, 0, api.ErrArg}, {-1, -1, 0, api.ErrArg}, {-6, -7, 0, api.ErrArg}, {-1, math.MaxInt, 0, api.ErrArg},
		{math.MinInt, 0, 0, api.ErrArg}, {math.MinInt, -1, 0, api.ErrArg}, {math.MinInt, 2, 0, api.ErrArg}, {math.MinInt, math.MinInt, 0, api.ErrArg},
	} {
		if n, e := span.Mul(x.a, x.b); n != x.want || e != x.e {
			t.Errorf("Mul(%d, %d): %d, %v, want %d, %v", x.a, x.b, n, e, x.want, x.e)
		}
		if n, e := span.Mul(x.b, x.a); n != x.want || e != x.e {
			t.Errorf("Mul(%d, %d): %d, %v, want %d, %v", x.b, x.a, n, e, x.want, x.e)
		}
	}
}

func TestJoin(t *testing.T) { // P2.3
	l := []api.Span{of(9, 12), of(0, 5), of(14, 20), of(3, 3), of(-4, 30), of(30, 31), of(31, 33)}
	same(t, "gap 0", span.Join(l, 0), of(0, 5), of(9, 12), of(14, 20), of(30, 33))
	same(t, "gap 1", span.Join(l, 1), of(0, 5), of(9, 12), of(14, 20), of(30, 33))
	same(t, "gap 2", span.Join(l, 2), of(0, 5), of(9, 20), of(30, 33))
	same(t, "gap 3", span.Join(l, 3), of(0, 5), of(9, 20), of(30, 33))
	same(t, "gap 4", span.Join(l, 4), of(0, 20), of(30, 33))
	same(t, "gap 9", span.Join(l, 9), of(0, 20), of(30, 33))
	same(t, "gap 10", span.Join(l, 10), of(0, 33))
	same(t, "the greatest gap", span.Join(l, math.MaxInt), of(0, 33))
	for _, gap := range []int{-1, -2, -1000, math.MinInt} {
		same(t, "a gap below 0", span.Join(l, gap), of(0, 5), of(9, 12), of(14, 20), of(30, 33))
	}
}

func TestJoinGoesByTheUnion(t *testing.T) { // P2.3: spans in one another, and gaps that others fill
	same(t, "in one another", span.Join([]api.Span{of(2, 4), of(0, 10), of(5, 6), of(12, 13)}, 1), of(0, 10), of(12, 13))
	same(t, "in one another, near", span.Join([]api.Span{of(2, 4), of(0, 10), of(5, 6), of(12, 13)}, 2), of(0, 13))
	same(t, "one twice", span.Join([]api.Span{of(2, 4), of(2, 4)}, 0), of(2, 4))
	same(t, "that touch", span.Join([]api.Span{of(4, 6), of(2, 4)}, 0), of(2, 6))
	same(t, "that touch, below 0", span.Join([]api.Span{of(4, 6), of(2, 4)}, math.MinInt), of(2, 6))
	same(t, "a gap that is filled", span.Join([]api.Span{of(0, 2), of(6, 8), of(2, 6)}, 0), of(0, 8))
	same(t, "a row of gaps", span.Join([]api.Span{of(0, 1), of(2, 3), of(4, 5), of(6, 7)}, 1), of(0, 7))
}

func TestJoinOfNothing(t *testing.T) { // P2.3
	for _, gap := range []int{math.MinInt, -1, 0, 5, math.MaxInt} {
		same(t, "nil", span.Join(nil, gap))
		same(t, "none", span.Join([]api.Span{}, gap))
		same(t, "empty ones", span.Join(noSpans(), gap))
		same(t, "one and empty ones", span.Join(append(noSpans(), of(3, 4)), gap), of(3, 4))
	}
}

func TestJoinAtTheEndsOfInt(t *testing.T) { // P2.3
	l := []api.Span{of(math.MaxInt-1, math.MaxInt), of(0, 1)}
	same(t, "far", span.Join(l, 0), of(0, 1), of(math.MaxInt-1, math.MaxInt))
	same(t, "one too far", span.Join(l, math.MaxInt-3), of(0, 1), of(math.MaxInt-1, math.MaxInt))
	same(t, "just near", span.Join(l, math.MaxInt-2), of(0, math.MaxInt))
	same(t, "all", span.Join([]api.Span{of(0, math.MaxInt), of(5, 6)}, 0), of(0, math.MaxInt))
}

func TestJoinChangesNoList(t *testing.T) { // P2.3 by rule R3: its spare room included, and the answer is new
	room := []api.Span{of(9, 12), of(0, 5), of(5, 7), of(40, 41), of(30, 31)}
	want := slices.Clone(room)
	l := room[:3]
	got := span.Join(l, 100)
	same(t, "joined", got, of(0, 12))
	got[0] = of(77, 78)
	got = span.Join(l[:1], 0)
	got[0] = of(77, 78)
	same(t, "the list", room, want...)
}

func TestClip(t *testing.T) { // P2.3
	for _, x := range []struct {
		x    api.Span
		to   int
		want api.Span
	}{
		{of(3, 9), 5, of(3, 5)}, {of(3, 9), 4, of(3, 4)}, {of(3, 9), 8, of(3, 8)}, {of(3, 9), 9, of(3, 9)}, {of(3, 9), 10, of(3, 9)},
		{of(3, 9), 3, of(0, 0)}, {of(3, 9), 2, of(0, 0)}, {of(3, 9), 0, of(0, 0)}, {of(3, 9), -1, of(0, 0)},
		{of(0, 9), 1, of(0, 1)}, {of(0, 9), 0, of(0, 0)}, {of(3, 9), math.MaxInt, of(3, 9)}, {of(3, 9), math.MinInt, of(0, 0)},
		{of(0, math.MaxInt), math.MaxInt, of(0, math.MaxInt)}, {of(0, math.MaxInt), most, of(0, most)}, {of(math.MaxInt-1, math.MaxInt), math.MaxInt - 1, of(0, 0)},
		{of(-3, 9), 5, of(0, 0)}, {of(-1, 9), 100, of(0, 0)},
	} {
		if got := span.Clip(x.x, x.to); got != x.want {
			t.Errorf("Clip(%v, %d): %v, want %v", x.x, x.to, got, x.want)
		}
	}
	for _, x := range noSpans() {
		for _, to := range []int{math.MinInt, -1, 0, 3, 7, 100, math.MaxInt} {
			if got := span.Clip(x, to); got != (api.Span{}) {
				t.Errorf("Clip(%v, %d): %v", x, to, got)
			}
		}
	}
}

func TestJoinAgainstSingleNumbers(t *testing.T) { // P2.3, by a plain way: numbers one by one, and gaps that are filled
	for seed := range uint64(500) {
		rnd := rand.New(rand.NewPCG(seed, 1))
		var l []api.Span
		for range rnd.IntN(12) {
			l = append(l, drawn(rnd))
		}
		gap := rnd.IntN(12) - 3
		var m marks
		for _, x := range l {
			m.put(x)
		}
		last := -1
		for i, in := range m {
			if in {
				if last >= 0 && i-last-1 <= gap {
					m.put(of(last, i))
				}
				last = i
			}
		}
		same(t, "joined", span.Join(l, gap), m.spans(0, len(m), true)...)
	}
}

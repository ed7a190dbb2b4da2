package span_test

import (
	"math"
	"math/rand/v2"
	"slices"
	"testing"

	"catchword/api"
	"catchword/span"
)

// marks are numbers by the plain way: of each whether it is in.
type marks [80]bool

func (m *marks) put(x api.Span) {
	for i := x.From; x.From >= 0 && i < x.To; i++ {
		m[i] = true
	}
}

// spans are those of the numbers from one on, up to another one, that are in, or that are not.
func (m *marks) spans(from, to int, in bool) []api.Span {
	var l []api.Span
	for i := max(from, 0); i < to; i++ {
		if m[i] != in {
			continue
		}
		if n := len(l); n > 0 && l[n-1].To == i {
			l[n-1].To++
		} else {
			l = append(l, of(i, i+1))
		}
	}
	return l
}

func (m *marks) upto(at int) int {
	for at >= 0 && at < len(m) && m[at] {
		at++
	}
	return at
}

func (m *marks) size() int {
	n := 0
	for _, in := range m {
		if in {
			n++
		}
	}
	return n
}

// drawn is a span, an empty one among them.
func drawn(rnd *rand.Rand) api.Span {
	from := rnd.IntN(84) - 4
	return of(from, min(from+rnd.IntN(14)-2, len(marks{})))
}

// set is one of spans.
func set(l ...api.Span) *span.Set {
	s := new(span.Set)
	for _, x := range l {
		s.Put(x)
	}
	return s
}

// isEmpty asks a set for all that an empty one says.
func isEmpty(t *testing.T, s *span.Set) {
	t.Helper()
	same(t, "All", s.All())
	if s.Size() != 0 {
		t.Error("size", s.Size())
	}
	for _, at := range []int{math.MinInt, -1, 0, 1, 7, most, math.MaxInt} {
		if s.Upto(at) != at {
			t.Errorf("Upto(%d): %d", at, s.Upto(at))
		}
	}
	for _, x := range []api.Span{of(0, 1), of(3, 9), of(0, math.MaxInt), of(math.MaxInt-1, math.MaxInt)} {
		if s.Has(x) {
			t.Error("has", x)
		}
		same(t, "Missing", s.Missing(x), x)
	}
	for _, x := range noSpans() {
		if !s.Has(x) {
			t.Error("has not all of nothing", x)
		}
		same(t, "Missing of nothing", s.Missing(x))
	}
}

func TestZeroSet(t *testing.T) { // P2.2
	var s span.Set
	isEmpty(t, &s)
	for _, x := range noSpans() {
		s.Put(x)
	}
	isEmpty(t, &s)
}

func TestNilSet(t *testing.T) { // P2.2
	var s *span.Set
	isEmpty(t, s)
	s.Put(of(3, 9))
	s.Put(of(9, 3))
	isEmpty(t, s)
}

func TestPutJoinsWhatTouches(t *testing.T) { // P2.2, and the chapter's example
	same(t, "the example", set(of(0, 5), of(5, 9)).All(), of(0, 9))
	same(t, "the other way", set(of(5, 9), of(0, 5)).All(), of(0, 9))
	same(t, "between", set(of(0, 3), of(6, 9), of(3, 6)).All(), of(0, 9))
	same(t, "one apart", set(of(0, 4), of(5, 9)).All(), of(0, 4), of(5, 9))
	same(t, "over", set(of(0, 6), of(4, 9)).All(), of(0, 9))
	same(t, "in it", set(of(0, 9), of(4, 6)).All(), of(0, 9))
	same(t, "around it", set(of(4, 6), of(0, 9)).All(), of(0, 9))
	same(t, "around all", set(of(4, 6), of(1, 2), of(20, 30), of(0, 25)).All(), of(0, 30))
	same(t, "twice", set(of(4, 6), of(4, 6)).All(), of(4, 6))
	same(t, "one number", set(of(0, 1)).All(), of(0, 1))
	same(t, "of several", set(of(0, 1), of(10, 11), of(20, 21), of(30, 31), of(11, 20)).All(), of(0, 1), of(10, 21), of(30, 31))
}

func TestPutOfNothing(t *testing.T) { // P2.2: empty spans, even in the midst
	s := set(of(3, 9), of(12, 14))
	for _, x := range noSpans() {
		s.Put(x)
		same(t, "All", s.All(), of(3, 9), of(12, 14))
		if !s.Has(x) {
			t.Error("has not all of nothing", x)
		}
		same(t, "Missing of nothing", s.Missing(x))
	}
}

func TestHas(t *testing.T) { // P2.2
	s := set(of(3, 9), of(12, 14))
	for _, x := range []api.Span{of(3, 9), of(3, 4), of(8, 9), of(5, 7), of(12, 14), of(13, 14)} {
		if !s.Has(x) {
			t.Error("has not", x)
		}
	}
	for _, x := range []api.Span{of(2, 9), of(3, 10), of(2, 3), of(9, 10), of(9, 12), of(11, 12), of(3, 14), of(8, 13), of(0, 20), of(0, 1), of(14, 15), of(3, math.MaxInt)} {
		if s.Has(x) {
			t.Error("has", x)
		}
	}
}

func TestUpto(t *testing.T) { // P2.2
	s := set(of(0, 2), of(3, 9), of(12, 14))
	for _, x := range [][2]int{{0, 2}, {1, 2}, {2, 2}, {3, 9}, {8, 9}, {9, 9}, {10, 10}, {11, 11}, {12, 14}, {13, 14}, {14, 14}, {15, 15}, {-1, -1}, {-9, -9}, {math.MinInt, math.MinInt}, {math.MaxInt, math.MaxInt}} {
		if got := s.Upto(x[0]); got != x[1] {
			t.Errorf("Upto(%d): %d, want %d", x[0], got, x[1])
		}
	}
}

func TestMissing(t *testing.T) { // P2.2
	s := set(of(3, 9), of(12, 14))
	same(t, "all", s.Missing(of(0, 20)), of(0, 3), of(9, 12), of(14, 20))
	same(t, "between", s.Missing(of(9, 12)), of(9, 12))
	same(t, "in it", s.Missing(of(4, 8)))
	same(t, "itself", s.Missing(of(3, 9)))
	same(t, "one before", s.Missing(of(2, 9)), of(2, 3))
	same(t, "one behind", s.Missing(of(3, 10)), of(9, 10))
	same(t, "from one to the other", s.Missing(of(5, 13)), of(9, 12))
	same(t, "ahead of all", s.Missing(of(0, 3)), of(0, 3))
	same(t, "far ahead", s.Missing(of(0, 1)), of(0, 1))
	same(t, "behind all", s.Missing(of(14, 99)), of(14, 99))
	same(t, "far behind", s.Missing(of(50, 99)), of(50, 99))
	same(t, "begins below 0", s.Missing(of(-1, 20)))
	same(t, "what it has is unchanged", s.All(), of(3, 9), of(12, 14))
}

func TestSize(t *testing.T) { // P2.2
	s := new(span.Set)
	for _, x := range []struct {
		x    api.Span
		want int
	}{{of(3, 9), 6}, {of(3, 9), 6}, {of(12, 14), 8}, {of(8, 10), 9}, {of(-4, 99), 9}, {of(10, 12), 11}, {of(0, 20), 20}} {
		s.Put(x.x)
		if s.Size() != x.want {
			t.Errorf("behind %v: %d, want %d", x.x, s.Size(), x.want)
		}
	}
}

func TestSetAtTheEndsOfInt(t *testing.T) { // P2.2
	s := set(of(math.MaxInt-1, math.MaxInt), of(0, 1))
	same(t, "All", s.All(), of(0, 1), of(math.MaxInt-1, math.MaxInt))
	same(t, "Missing", s.Missing(of(0, math.MaxInt)), of(1, math.MaxInt-1))
	if s.Size() != 2 || s.Upto(math.MaxInt-1) != math.MaxInt || s.Upto(0) != 1 || s.Upto(math.MaxInt) != math.MaxInt || s.Has(of(0, math.MaxInt)) {
		t.Error("ends", s.Size())
	}
	s.Put(of(1, math.MaxInt))
	same(t, "All", s.All(), of(0, math.MaxInt))
	same(t, "Missing", s.Missing(of(0, math.MaxInt)))
	if s.Size() != math.MaxInt || s.Upto(0) != math.MaxInt || s.Upto(-1) != -1 || !s.Has(of(0, math.MaxInt)) {
		t.Error("whole", s.Size())
	}
}

func TestSetAgainstSingleNumbers(t *testing.T) { // P2.2, by a plain way
	for seed := range uint64(300) {
		rnd := rand.New(rand.NewPCG(seed, 2))
		var s span.Set
		var m marks
		for range 25 {
			x := drawn(rnd)
			s.Put(x)
			m.put(x)
			same(t, "All", s.All(), m.spans(0, len(m), true)...)
			if s.Size() != m.size() {
				t.Fatalf("seed %d: %d numbers, want %d", seed, s.Size(), m.size())
			}
			y := drawn(rnd)
			want := m.spans(y.From, y.To, false)
			if y.From < 0 {
				want = nil
			}
			same(t, "Missing", s.Missing(y), want...)
			if s.Has(y) != (len(want) == 0) {
				t.Fatalf("seed %d: %v has %v: %v", seed, s.All(), y, s.Has(y))
			}
			if at := rnd.IntN(100) - 9; s.Upto(at) != m.upto(at) {
				t.Fatalf("seed %d: Upto(%d): %d, want %d", seed, at, s.Upto(at), m.upto(at))
			}
		}
	}
}

func TestAnswersAreNobodyElses(t *testing.T) { // P2.2 by rule R3
	s := set(of(3, 9), of(12, 14))
	for _, l := range [][]api.Span{s.All(), s.Missing(of(0, 20)), s.Missing(of(9, 12))} {
		l = l[:cap(l)]
		for i := range l {
			l[i] = of(70, 71)
		}
	}
	same(t, "All", s.All(), of(3, 9), of(12, 14))
	old := s.All()
	s.Put(of(0, 20))
	same(t, "an older answer", old, of(3, 9), of(12, 14))
}

func TestSetsAreApart(t *testing.T) { // P2.2 by rule R4: one that was assigned to another one, too
	q, r := set(of(3, 9)), set()
	isEmpty(t, r)
	q.Put(of(12, 14))
	s := *q
	s.Put(of(9, 10))
	q.Put(of(20, 21))
	u := s
	u.Put(of(0, 30))
	s.Put(of(40, 41))
	isEmpty(t, r)
	same(t, "the first", q.All(), of(3, 9), of(12, 14), of(20, 21))
	same(t, "the second", s.All(), of(3, 10), of(12, 14), of(40, 41))
	same(t, "the third", u.All(), of(0, 30))
}

// orders hands on a list in each of its orders.
func orders(l []api.Span, k int, do func([]api.Span)) {
	if k == len(l) {
		do(l)
	}
	for i := k; i < len(l); i++ {
		l[k], l[i] = l[i], l[k]
		orders(l, k+1, do)
		l[k], l[i] = l[i], l[k]
	}
}

func TestWhateverOrder(t *testing.T) { // P2.4
	for _, l := range [][]api.Span{
		{of(0, 5), of(5, 9), of(11, 12), of(3, 6), of(20, 30), of(-1, 50)},
		{of(4, 4), of(7, 8), of(8, 9), of(6, 7), of(2, 3), of(0, 1)},
		{of(0, 2), of(10, 12), of(20, 22), of(30, 32), of(1, 31), of(40, 42)},
	} {
		var m marks
		for _, x := range l {
			m.put(x)
		}
		want := m.spans(0, len(m), true)
		orders(l, 0, func(l []api.Span) {
			s := set(l...)
			same(t, "All", s.All(), want...)
			same(t, "Join", span.Join(l, 0), want...)
			if s.Size() != m.size() || s.Upto(5) != m.upto(5) {
				t.Error(l, s.Size(), s.Upto(5))
			}
		})
	}
}

func TestMissingPutIn(t *testing.T) { // P2.4: what is missing, put in, is there, and nothing else
	for seed := range uint64(200) {
		rnd := rand.New(rand.NewPCG(seed, 3))
		var s span.Set
		var m marks
		for range 1 + rnd.IntN(10) {
			x := drawn(rnd)
			s.Put(x)
			m.put(x)
		}
		x := drawn(rnd)
		l := s.Missing(x)
		n := s.Size()
		for _, y := range l {
			s.Put(y)
			n += y.To - y.From
		}
		m.put(x)
		if len(s.Missing(x)) != 0 || !s.Has(x) || s.Size() != n {
			t.Fatalf("seed %d: of %v %v is missing", seed, x, s.Missing(x))
		}
		same(t, "All", s.All(), m.spans(0, len(m), true)...)
	}
}

func TestManySpans(t *testing.T) { // P2.2 and P2.4: many, that do not touch, rising, falling and mixed; then all that lies between
	const many = 20000
	up := make([]api.Span, many)
	for i := range up {
		up[i] = of(2*i, 2*i+1)
	}
	down := slices.Clone(up)
	slices.Reverse(down)
	mixed := slices.Clone(up)
	rand.New(rand.NewPCG(4, 4)).Shuffle(many, func(i, k int) { mixed[i], mixed[k] = mixed[k], mixed[i] })
	for _, l := range [][]api.Span{up, down, mixed} {
		s := set(l...)
		if !slices.Equal(s.All(), up) || s.Size() != many || s.Upto(2*many-2) != 2*many-1 {
			t.Fatal("not the spans that were put")
		}
		gaps := s.Missing(of(0, 2*many))
		if len(gaps) != many {
			t.Fatal("missing", len(gaps))
		}
		for _, x := range gaps {
			s.Put(x)
		}
		same(t, "all", s.All(), of(0, 2*many))
	}
}

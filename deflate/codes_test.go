package deflate_test

import (
	"math"
	"math/rand/v2"
	"slices"
	"testing"

	"catchword/deflate"
	"catchword/inflate"
)

// three are a symbol, what is left, and how many bits that has.
type three [3]int

// nearest is the last row of a table whose number is at most x, and what is left, by the chapter's words.
func nearest(table []extra, first, x int) three {
	best := three{-1}
	for i, y := range table {
		if y.number <= x {
			best = three{first + i, x - y.number, y.bits}
		}
	}
	return best
}

func TestSymbol(t *testing.T) { // P7.4: of all lengths, and at the edges
	for length, want := range map[int]three{3: {257, 0, 0}, 4: {258, 0, 0}, 10: {264, 0, 0}, 11: {265, 0, 1}, 12: {265, 1, 1}, 13: {266, 0, 1}, 227: {284, 0, 5}, 257: {284, 30, 5}, 258: {285, 0, 0}} {
		if s, x, n := deflate.Symbol(length); want != (three{s, x, n}) {
			t.Errorf("Symbol(%d): %d, %d, %d; want %v", length, s, x, n, want)
		}
	}
	for length := 3; length <= 258; length++ {
		s, x, n := deflate.Symbol(length)
		if want := nearest(lengthTable, 257, length); want != (three{s, x, n}) {
			t.Errorf("Symbol(%d): %d, %d, %d; want %v", length, s, x, n, want)
		}
		if number, k, ok := inflate.Length(s); !ok || number+x != length || k != n || x < 0 || x >= 1<<n {
			t.Errorf("Symbol(%d): %d, %d, %d; by inflate %d, %d, %v", length, s, x, n, number, k, ok)
		}
	}
	for _, length := range []int{2, 1, 0, -1, -3, -258, 259, 260, 513, 65536 + 3, 1<<32 + 3, math.MaxInt, math.MinInt, math.MinInt + 3} {
		if s, x, n := deflate.Symbol(length); s != 0 || x != 0 || n != 0 {
			t.Errorf("Symbol(%d): %d, %d, %d", length, s, x, n)
		}
	}
}

func TestFar(t *testing.T) { // P7.4: of all distances, and at the edges
	for distance, want := range map[int]three{1: {0, 0, 0}, 2: {1, 0, 0}, 4: {3, 0, 0}, 5: {4, 0, 1}, 6: {4, 1, 1}, 7: {5, 0, 1}, 24576: {28, 8191, 13}, 24577: {29, 0, 13}, 32768: {29, 8191, 13}} {
		if s, x, n := deflate.Far(distance); want != (three{s, x, n}) {
			t.Errorf("Far(%d): %d, %d, %d; want %v", distance, s, x, n, want)
		}
	}
	for distance := 1; distance <= 32768; distance++ {
		s, x, n := deflate.Far(distance)
		if want := nearest(distanceTable, 0, distance); want != (three{s, x, n}) {
			t.Errorf("Far(%d): %d, %d, %d; want %v", distance, s, x, n, want)
		}
		if number, k, ok := inflate.Distance(s); !ok || number+x != distance || k != n || x < 0 || x >= 1<<n {
			t.Errorf("Far(%d): %d, %d, %d; by inflate %d, %d, %v", distance, s, x, n, number, k, ok)
		}
	}
	for _, distance := range []int{0, -1, -2, -32768, 32769, 32770, 65536, 65537, 1<<32 + 1, math.MaxInt, math.MinInt, math.MinInt + 1} {
		if s, x, n := deflate.Far(distance); s != -1 || x != 0 || n != 0 {
			t.Errorf("Far(%d): %d, %d, %d", distance, s, x, n)
		}
	}
}

// tells asks that runs tell just these lengths, by the words of inflate's kind 2, and answers how many runs there are.
func tells(t *testing.T, lengths []int) int {
	t.Helper()
	l := deflate.Runs(lengths)
	var row []int
	for _, r := range l {
		most := map[int]int{16: 3, 17: 7, 18: 127}[r.Symbol]
		if r.Symbol < 0 || r.Symbol > 18 || r.Value < 0 || r.Value > most || r.Symbol == 16 && len(row) == 0 {
			t.Fatalf("Runs(%v): %v, behind %d", lengths, r, len(row))
		}
		switch r.Symbol {
		case 16:
			row = append(row, same(3+r.Value, row[len(row)-1])...)
		case 17:
			row = append(row, same(3+r.Value, 0)...)
		case 18:
			row = append(row, same(11+r.Value, 0)...)
		default:
			row = append(row, r.Symbol)
		}
	}
	if !slices.Equal(row, lengths) {
		t.Fatalf("Runs(%v): %v, which is %v", lengths, l, row)
	}
	return len(l)
}

func TestRunsOfOneLength(t *testing.T) { // P7.5: rows of each number of times, alone, behind others and ahead of others
	for n := range 317 {
		for x := range 16 {
			row := same(n, x)
			tells(t, row)
			if n <= 300 {
				tells(t, slices.Concat([]int{7, 0, 3}, row, []int{9, 0}))
				tells(t, slices.Concat([]int{0, 0}, row, []int{15, 15, 15, 15}))
			}
		}
	}
	for _, x := range []struct{ n, length, want int }{
		{1, 0, 1}, {2, 0, 2}, {3, 0, 1}, {10, 0, 1}, {11, 0, 1}, {138, 0, 1}, {139, 0, 2}, {316, 0, 3},
		{1, 8, 1}, {2, 8, 2}, {3, 8, 3}, {4, 8, 2}, {6, 8, 2}, {7, 8, 2}, {8, 8, 3}, {316, 8, 54},
	} {
		if got := tells(t, same(x.n, x.length)); got != x.want {
			t.Errorf("%d times %d: %d runs, want %d", x.n, x.length, got, x.want)
		}
	}
}

func TestRunsOfNoLengths(t *testing.T) { // P7.5
	for _, l := range [][]int{nil, {}} {
		if got := deflate.Runs(l); len(got) != 0 {
			t.Error(got)
		}
	}
}

func TestRunsThatMayNotBe(t *testing.T) { // P7.5: a length below 0, or above 15, or too many
	for _, x := range []int{-1, 16, 17, 18, 256, 1 << 32, 1<<32 + 1, math.MaxInt, math.MinInt} {
		for _, n := range []int{1, 2, 30, 316} {
			for _, at := range []int{0, n / 2, n - 1} {
				l := same(n, 5)
				l[at] = x
				if got := deflate.Runs(l); len(got) != 0 {
					t.Errorf("%d at %d of %d: %v", x, at, n, got)
				}
			}
		}
	}
	for _, n := range []int{317, 318, 320, 1000, 1 << 17} {
		for _, x := range []int{0, 1, 15} {
			if got := deflate.Runs(same(n, x)); len(got) != 0 {
				t.Errorf("%d times %d: %v", n, x, got)
			}
		}
	}
}

func TestRunsOfManyLists(t *testing.T) { // P7.5: all short ones, and many long ones
	for n := range 9 {
		for k := range int(math.Pow(3, float64(n))) {
			l := make([]int, n)
			for i := range l {
				l[i] = k % 3 * 7
				k /= 3
			}
			tells(t, l)
		}
	}
	r := rand.New(rand.NewPCG(7, 8))
	for range 20000 {
		var l []int
		for n := r.IntN(317); len(l) < n; {
			x := r.IntN(16) * r.IntN(2)
			l = append(l, same(min(1+r.IntN(150)>>r.IntN(8), n-len(l)), x)...)
		}
		tells(t, l)
	}
}

func TestRunsNeitherChangeNorShare(t *testing.T) { // P7.5 by rules R3 and R4
	room := []int{0, 0, 0, 5, 5, 5, 5, 5, 9, 9}
	kept := slices.Clone(room)
	p, q := deflate.Runs(room[:7]), deflate.Runs(kept[:7])
	if !slices.Equal(p, q) || !slices.Equal(room, kept) {
		t.Errorf("%v, %v, %v", p, q, room)
	}
	for i := range p[:cap(p)] {
		p[:cap(p)][i] = deflate.Run{Symbol: 9, Value: 9}
	}
	if l := deflate.Runs(room[:7]); !slices.Equal(l, q) {
		t.Errorf("%v, %v", l, q)
	}
}

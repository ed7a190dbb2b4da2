package source_test

import (
	"bytes"
	"math"
	"slices"
	"testing"

	"catchword/api"
	"catchword/source"
)

// orders are all orders of so many things.
func orders(n int) [][]int {
	if n == 0 {
		return [][]int{nil}
	}
	var out [][]int
	for _, l := range orders(n - 1) {
		for i := range n {
			out = append(out, slices.Insert(slices.Clone(l), i, n-1))
		}
	}
	return out
}

func TestWhateverOrder(t *testing.T) { // P16.5: all orders of some pieces, that lie in one another too
	file := newChance(8).bytes(2500)
	pieces := []api.Span{{From: 0, To: 1030}, {From: 1000, To: 1024}, {From: 1024, To: 2048}, {From: 2100, To: 2500}, {From: 900, To: 2101}, {From: 2499, To: 2500}}
	for part := range len(pieces) + 1 {
		var want answers
		for i, order := range orders(part) {
			s := made(t, len(file))
			for _, k := range order {
				puts(t, s, pieces[k].From, string(file[pieces[k].From:pieces[k].To]), api.OK)
			}
			knownOf(t, s, file)
			if i == 0 {
				want = told(s)
			} else if i%20 == 0 && !told(s).sameAs(want) {
				t.Fatalf("order %v tells something else", order)
			}
		}
	}
}

// knownOf asks that all that a source reads is a file's.
func knownOf(t *testing.T, s *source.Source, file []byte) {
	t.Helper()
	for _, x := range s.Known() {
		reads(t, s, x.From, math.MaxInt, string(file[x.From:x.To]), x.To == len(file))
		firsts(t, s, x.From, x.To)
	}
}

func TestWhateverOrderByChance(t *testing.T) { // P16.5: what is read is that file's
	c := newChance(9)
	for range 100 {
		file := c.bytes(1 + c.IntN(6000))
		var pieces []api.Span
		for range c.IntN(30) {
			pieces = append(pieces, c.span(len(file)))
		}
		var known [][]api.Span
		for range 3 {
			s := made(t, len(file))
			c.Shuffle(len(pieces), func(i, k int) { pieces[i], pieces[k] = pieces[k], pieces[i] })
			for _, x := range pieces {
				puts(t, s, x.From, string(file[x.From:x.To]), api.OK)
			}
			knownOf(t, s, file)
			known = append(known, s.Known())
		}
		if !slices.Equal(known[0], known[1]) || !slices.Equal(known[0], known[2]) {
			t.Fatalf("%v, %v, %v", known[0], known[1], known[2])
		}
	}
}

func TestWhatIsReadStays(t *testing.T) { // P16.5: or becomes more, of whatever file the pieces are
	c := newChance(10)
	for range 20 {
		s := made(t, 1+c.IntN(2500))
		before := told(s)
		for range 25 {
			x := c.span(s.Total())
			puts(t, s, x.From, string(c.bytes(x.To-x.From)), api.OK)
			after := told(s)
			for i, b := range before.read {
				if !bytes.HasPrefix(after.read[i], b) || before.last[i] && (!after.last[i] || len(after.read[i]) > len(b)) || after.first[i] < before.first[i] {
					t.Fatalf("from %d on: %d bytes, then %d", i-1, len(b), len(after.read[i]))
				}
			}
			before = after
		}
	}
}

package source_test

import (
	"bytes"
	"math"
	"math/rand/v2"
	"slices"
	"testing"

	"catchword/api"
	"catchword/source"
)

// most is the greatest length of a file.
const most = 1<<31 - 1

// farOff are numbers below 0, and past all ends.
var farOff = []int{math.MinInt, math.MinInt + 1, -most - 2, -most, -2, -1, most + 1, 1 << 32, 1 << 40, math.MaxInt - 1, math.MaxInt}

// model is a source by the chapter's words: its bytes one by one.
type model struct {
	total int
	known map[int]byte
}

func modelOf(total int) *model { return &model{total, map[int]byte{}} }

func (m *model) put(at int, b []byte) api.Errno {
	if at < 0 || at > m.total {
		return api.ErrArg
	}
	if len(b) > m.total-at {
		return api.ErrRange
	}
	for i, x := range b {
		if _, ok := m.known[at+i]; !ok {
			m.known[at+i] = x
		}
	}
	return api.OK
}

func (m *model) first(at int) int {
	for i := max(at, 0); i < m.total; i++ {
		if _, ok := m.known[i]; !ok {
			return i
		}
	}
	return m.total
}

func (m *model) read(at, most int) ([]byte, bool) {
	if at < 0 || at > m.total || most < 0 {
		return nil, false
	}
	var out []byte
	for i, end := at, m.first(at); i < end && i-at < most; i++ {
		out = append(out, m.known[i])
	}
	return out, at+len(out) == m.total
}

func (m *model) spans() []api.Span {
	var out []api.Span
	for i := range m.total {
		if _, ok := m.known[i]; !ok {
			continue
		}
		if n := len(out); n > 0 && out[n-1].To == i {
			out[n-1].To = i + 1
		} else {
			out = append(out, api.Span{From: i, To: i + 1})
		}
	}
	return out
}

// few ends a test that has told enough: where one answer is wrong, thousands may be.
func few(t *testing.T) {
	t.Helper()
	if t.Failed() {
		t.FailNow()
	}
}

// made is a source of so many bytes, that must be.
func made(t *testing.T, total int) *source.Source {
	t.Helper()
	s, e := source.New(total)
	if e != api.OK || s == nil {
		t.Fatalf("New(%d): %v, %v", total, s, e)
	}
	return s
}

// puts asks for Put's answer.
func puts(t *testing.T, s *source.Source, at int, b string, e api.Errno) {
	t.Helper()
	if got := s.Put(at, []byte(b)); got != e {
		t.Errorf("Put(%d, %.80q): %v, want %v", at, b, got, e)
	}
	few(t)
}

// reads asks for Read's answer.
func reads(t *testing.T, s *source.Source, at, most int, want string, end bool) {
	t.Helper()
	if b, last := s.Read(at, most); string(b) != want || last != end {
		t.Errorf("Read(%d, %d): %d bytes %.80q, %v, want %d bytes %.80q, %v", at, most, len(b), b, last, len(want), want, end)
	}
	few(t)
}

// firsts asks for First's answer.
func firsts(t *testing.T, s *source.Source, at, want int) {
	t.Helper()
	if got := s.First(at); got != want {
		t.Errorf("First(%d): %d, want %d", at, got, want)
	}
	few(t)
}

// knows asks for the places that are known: From and To in turn.
func knows(t *testing.T, s *source.Source, ends ...int) {
	t.Helper()
	var want []api.Span
	for i := 0; i < len(ends); i += 2 {
		want = append(want, api.Span{From: ends[i], To: ends[i+1]})
	}
	if got := s.Known(); !slices.Equal(got, want) {
		t.Errorf("Known: %v, want %v", got, want)
	}
	few(t)
}

// isAs asks that a source answers what the model of it does: all it knows, and what it reads from places on, at most so many bytes.
func isAs(t *testing.T, s *source.Source, m *model, places, counts []int) {
	t.Helper()
	if s.Total() != m.total || !slices.Equal(s.Known(), m.spans()) {
		t.Errorf("of %d bytes are known %v, want of %d %v", s.Total(), s.Known(), m.total, m.spans())
	}
	for _, at := range places {
		firsts(t, s, at, m.first(at))
		for _, n := range counts {
			want, end := m.read(at, n)
			reads(t, s, at, n, string(want), end)
		}
	}
	few(t)
}

// answers are all that a source tells, held against later by sameAs.
type answers struct {
	total int
	known []api.Span
	first []int
	read  [][]byte
	last  []bool
}

// told are a source's answers, at each of its places and beyond.
func told(s *source.Source) answers {
	a := answers{total: s.Total(), known: s.Known()}
	for at := -1; at <= a.total+1; at++ {
		b, last := s.Read(at, math.MaxInt)
		a.first = append(a.first, s.First(at))
		a.read = append(a.read, b)
		a.last = append(a.last, last)
	}
	return a
}

func (a answers) sameAs(b answers) bool {
	return a.total == b.total && slices.Equal(a.known, b.known) && slices.Equal(a.first, b.first) && slices.EqualFunc(a.read, b.read, bytes.Equal) && slices.Equal(a.last, b.last)
}

// upto are the numbers from one on, up to another one, that included.
func upto(from, to int) []int {
	var l []int
	for n := from; n <= to; n++ {
		l = append(l, n)
	}
	return l
}

// chance makes files, and pieces of them, by chance.
type chance struct{ *rand.Rand }

func newChance(k uint64) chance { return chance{rand.New(rand.NewPCG(16, k))} }

// bytes are so many.
func (c chance) bytes(n int) []byte {
	b := make([]byte, n)
	for i := range b {
		b[i] = byte(c.Uint32())
	}
	return b
}

// span is one of a file of so many bytes, often short, often at the file's ends or at those of some power of 2.
func (c chance) span(total int) api.Span {
	at := c.IntN(total + 1)
	switch c.IntN(4) {
	case 0:
		at = 0
	case 1:
		at = min(total, at>>8<<8+c.IntN(3))
	}
	n := c.IntN(total - at + 1)
	if c.IntN(3) > 0 {
		n = min(n, c.IntN(40))
	}
	return api.Span{From: at, To: at + n}
}

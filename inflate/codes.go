package inflate

import (
	"slices"

	"catchword/api"
	"catchword/huff"
)

const (
	// mostSymbols and mostDistances are how many of them may have lengths of a block's own.
	mostSymbols   = 286
	mostDistances = 30
	// lengthKinds is how many symbols there are of which lengths are told.
	lengthKinds = 19
)

// Length is a symbol's.
func Length(symbol int) (int, int, bool) {
	switch {
	case symbol < 257 || symbol > 285:
		return 0, 0, false
	case symbol < 265:
		return symbol - 254, 0, true
	case symbol == 285:
		return 258, 0, true
	}
	q, r := (symbol-261)/4, (symbol-261)%4
	return 3 + (4+r)<<q, q, true
}

// Distance is a symbol's.
func Distance(symbol int) (int, int, bool) {
	switch {
	case symbol < 0 || symbol > 29:
		return 0, 0, false
	case symbol < 4:
		return symbol + 1, 0, true
	}
	q, r := (symbol-2)/2, (symbol-2)%2
	return 1 + (2+r)<<q, q, true
}

// Fixed are the fixed lengths.
func Fixed() ([]int, []int) {
	symbols := slices.Concat(same(144, 8), same(112, 9), same(24, 7), same(8, 8))
	return symbols, same(30, 5)
}

// same is n times x.
func same(n, x int) []int { return slices.Repeat([]int{x}, n) }

// Order is the order of lengths' lengths.
func Order() []int {
	return []int{16, 17, 18, 0, 8, 7, 9, 6, 10, 5, 11, 4, 12, 3, 13, 2, 14, 1, 15}
}

// codes are those of a block: of its symbols, and of its distances.
type codes struct{ symbols, distances *huff.Table }

// newCodes are those of lengths.
func newCodes(symbols, distances []int) (*codes, api.Errno) {
	s, e := huff.New(symbols)
	if e != api.OK {
		return nil, e
	}
	d, e := huff.New(distances)
	if e != api.OK {
		return nil, e
	}
	return &codes{symbols: s, distances: d}, api.OK
}

// fixedCodes are the codes of the fixed lengths.
func (p *packed) fixedCodes() (*codes, api.Errno) {
	if p.fixed == nil {
		c, e := newCodes(Fixed())
		if e != api.OK {
			return nil, e
		}
		p.fixed = c
	}
	return p.fixed, api.OK
}

// ownCodes are those that a block tells ahead of its symbols.
func (p *packed) ownCodes() (*codes, api.Errno) {
	symbols, e := p.more(257, 5, true)
	if e != api.OK {
		return nil, e
	}
	distances, e := p.more(1, 5, true)
	if e != api.OK {
		return nil, e
	}
	kinds, e := p.more(4, 4, true)
	if e != api.OK {
		return nil, e
	}
	if symbols > mostSymbols || distances > mostDistances {
		return nil, api.ErrForm
	}
	t, e := p.lengthCodes(kinds)
	if e != api.OK {
		return nil, e
	}
	l, e := p.lengths(t, symbols+distances)
	if e != api.OK {
		return nil, e
	}
	if l[end] == 0 {
		return nil, api.ErrForm
	}
	return newCodes(l[:symbols], l[symbols:])
}

// lengthCodes are the codes by which lengths are told: of so many of these, in their order, a length comes, of the others it is 0.
func (p *packed) lengthCodes(kinds int) (*huff.Table, api.Errno) {
	l := make([]int, lengthKinds)
	for _, symbol := range Order()[:kinds] {
		n, e := p.Get(3)
		if e != api.OK {
			return nil, e
		}
		l[symbol] = int(n)
	}
	return huff.New(l)
}

// lengths are the next n that the codes tell.
func (p *packed) lengths(t *huff.Table, n int) ([]int, api.Errno) {
	l := make([]int, 0, n)
	for len(l) < n {
		symbol, e := t.Get(p.Reader)
		if e != api.OK {
			return nil, e
		}
		length, times, e := p.run(symbol, l)
		if e != api.OK {
			return nil, e
		}
		if times > n-len(l) {
			return nil, api.ErrForm
		}
		for range times {
			l = append(l, length)
		}
	}
	return l, api.OK
}

// run is the length that a symbol tells, behind those that are there, and how many times it comes.
func (p *packed) run(symbol int, ahead []int) (length, times int, e api.Errno) {
	switch symbol {
	case 16:
		times, e = p.more(3, 2, true)
		if e == api.OK && len(ahead) == 0 {
			e = api.ErrForm
		}
		if e == api.OK {
			length = ahead[len(ahead)-1]
		}
	case 17:
		times, e = p.more(3, 3, true)
	case 18:
		times, e = p.more(11, 7, true)
	default:
		length, times = symbol, 1
	}
	return length, times, e
}

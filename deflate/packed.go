package deflate

import (
	"slices"

	"catchword/api"
	"catchword/bits"
	"catchword/huff"
	"catchword/inflate"
	"catchword/lz"
)

const (
	// leastSymbols, leastDistances and leastLengthKinds are how many lengths of each are told at least.
	leastSymbols     = end + 1
	leastDistances   = 1
	leastLengthKinds = 4
	// lengthKinds is how many symbols there are by which lengths are told, longestLengthCode how many bits the code of one has at most.
	lengthKinds       = 19
	longestLengthCode = 7
)

// part is bytes that are packed by one kind, and their tokens, once they were asked for: some kinds need none, and Least would need them twice.
type part struct {
	bytes []byte
	told  []lz.Token
}

// tokens are the part's.
func (x *part) tokens() []lz.Token {
	if x.told == nil {
		x.told = lz.Tokens(x.bytes)
	}
	return x.told
}

// packed is packed bytes that are written.
type packed struct {
	*bits.Writer
	e     api.Errno // the first error of what was put, so that it need not be asked for each time
	fixed codes     // kept for all blocks of that kind, as a block may be far shorter than the making of its codes is long
}

func newPacked() *packed { return &packed{Writer: bits.New(false)} }

// alone is one part, packed by a kind.
func alone(x *part, kind int) *packed {
	p := newPacked()
	p.writer(kind)(x, true)
	return p
}

// size is how many bytes there are.
func (p *packed) size() int { return (p.Len() + 7) / 8 }

// result is all bytes, or the error.
func (p *packed) result() ([]byte, api.Errno) {
	if p.e != api.OK {
		return nil, p.e
	}
	return p.Bytes(), api.OK
}

// keep keeps an error, if it is the first one.
func (p *packed) keep(e api.Errno) {
	if p.e == api.OK {
		p.e = e
	}
}

// number puts a number of n bits.
func (p *packed) number(x, n int) { p.keep(p.Put(uint32(x), n)) }

// writer is the function that writes a part by blocks of a kind, and says whether they are the last ones.
func (p *packed) writer(kind int) func(x *part, last bool) {
	return []func(x *part, last bool){
		Stored: func(x *part, last bool) {
			p.stored(x.bytes, last)
		},
		Fixed: func(x *part, last bool) {
			p.head(Fixed, last)
			p.coded(x.tokens(), p.fixedCodes())
		},
		Dynamic: func(x *part, last bool) {
			p.head(Dynamic, last)
			p.coded(x.tokens(), p.ownCodes(x.tokens()))
		},
	}[kind]
}

// head begins a block.
func (p *packed) head(kind int, last bool) {
	x := 0
	if last {
		x = 1
	}
	p.number(x, 1)
	p.number(kind, 2)
}

// stored puts bytes as they are; if there are none, one block of none.
func (p *packed) stored(b []byte, last bool) {
	for more := true; more; more = len(b) > 0 {
		n := min(len(b), longestStored)
		p.head(Stored, last && n == len(b))
		p.Align()
		p.number(n, 16)
		p.number(n^0xffff, 16)
		for _, x := range b[:n] {
			p.number(int(x), 8)
		}
		b = b[n:]
	}
}

// coded puts tokens by codes, and the symbol that ends the block.
func (p *packed) coded(l []lz.Token, c codes) {
	tell(l, p.putter(c.symbols), p.putter(c.distances))
}

// putter puts symbols by codes, and the bits behind them.
func (p *packed) putter(t *huff.Table) teller {
	return func(symbol, value, n int) {
		p.keep(t.Put(p.Writer, symbol))
		p.number(value, n)
	}
}

// fixedCodes are the codes of the fixed lengths.
func (p *packed) fixedCodes() codes {
	if p.fixed.symbols == nil {
		p.fixed = p.codes(inflate.Fixed())
	}
	return p.fixed
}

// ownCodes puts the lengths of codes that suit tokens, and answers these codes.
func (p *packed) ownCodes(l []lz.Token) codes {
	symbols, distances := counts(l)
	symbols = trim(p.lengths(symbols, longestCode), leastSymbols)
	distances = trim(p.lengths(distances, longestCode), leastDistances)
	p.number(len(symbols)-leastSymbols, 5)
	p.number(len(distances)-leastDistances, 5)
	p.runs(Runs(slices.Concat(symbols, distances)))
	return p.codes(symbols, distances)
}

// runs puts the lengths of codes that suit runs, and the runs by these codes.
func (p *packed) runs(l []Run) {
	times := make([]int, lengthKinds)
	for _, r := range l {
		times[r.Symbol]++
	}
	lengths := p.lengths(times, longestLengthCode)
	told := trim(inOrder(lengths), leastLengthKinds)
	p.number(len(told)-leastLengthKinds, 4)
	for _, n := range told {
		p.number(n, 3)
	}
	put := p.putter(p.table(lengths))
	for _, r := range l {
		put(r.Symbol, r.Value, r.bits())
	}
}

// lengths are those of codes, of so many bits at most, that suit how many times symbols come.
func (p *packed) lengths(times []int, most int) []int {
	l, e := huff.Lengths(times, most)
	p.keep(e)
	return l
}

// codes are those of lengths.
func (p *packed) codes(symbols, distances []int) codes {
	return codes{symbols: p.table(symbols), distances: p.table(distances)}
}

// table is the codes of lengths.
func (p *packed) table(lengths []int) *huff.Table {
	t, e := huff.New(lengths)
	p.keep(e)
	return t
}

package deflate_test

import (
	"math/rand/v2"
	"slices"
	"testing"

	"catchword/deflate"
)

// extra are numbers of symbols, and how many bits are put to each, as RFC 1951 writes them out.
type extra struct{ number, bits int }

var lengthTable = []extra{{3, 0}, {4, 0}, {5, 0}, {6, 0}, {7, 0}, {8, 0}, {9, 0}, {10, 0}, {11, 1}, {13, 1}, {15, 1}, {17, 1}, {19, 2}, {23, 2}, {27, 2}, {31, 2}, {35, 3}, {43, 3}, {51, 3}, {59, 3}, {67, 4}, {83, 4}, {99, 4}, {115, 4}, {131, 5}, {163, 5}, {195, 5}, {227, 5}, {258, 0}}

var distanceTable = []extra{{1, 0}, {2, 0}, {3, 0}, {4, 0}, {5, 1}, {7, 1}, {9, 2}, {13, 2}, {17, 3}, {25, 3}, {33, 4}, {49, 4}, {65, 5}, {97, 5}, {129, 6}, {193, 6}, {257, 7}, {385, 7}, {513, 8}, {769, 8}, {1025, 9}, {1537, 9}, {2049, 10}, {3073, 10}, {4097, 11}, {6145, 11}, {8193, 12}, {12289, 12}, {16385, 13}, {24577, 13}}

var lengthOrder = []int{16, 17, 18, 0, 8, 7, 9, 6, 10, 5, 11, 4, 12, 3, 13, 2, 14, 1, 15}

// same are n numbers x.
func same(n, x int) []int { return slices.Repeat([]int{x}, n) }

// code is one of so many bits.
type code struct{ bits, n int }

// finder finds symbols by their codes, and counts how often each is found.
type finder struct {
	by    map[code]int
	times []int
}

// newFinder numbers the codes of lengths as RFC 1951 says.
func newFinder(lengths []int) *finder {
	f := &finder{by: map[code]int{}, times: make([]int, len(lengths))}
	next := 0
	for n := 1; n <= 15; n++ {
		next *= 2
		for s, x := range lengths {
			if x == n {
				f.by[code{next, n}] = s
				next++
			}
		}
	}
	return f
}

// block is what is said of one of packed bytes.
type block struct {
	last                 bool
	kind, from, to, fill int   // fill is what the bits ahead of a byte are
	symbols, distances   []int // lengths, and how many times each comes
	timesS, timesD       []int
	kinds, timesK        []int // those by which lengths are told
	repetitions          int
}

// plain reads packed bytes by the words of RFC 1951.
type plain struct {
	*testing.T
	b      []byte
	at     int
	out    []byte
	blocks []block
}

func (p *plain) must(is bool, what string) {
	if !is {
		p.Helper()
		p.Fatalf("%s, at bit %d of %.40x, of %d", what, p.at, p.b, len(p.b))
	}
}

func (p *plain) num(n int) int {
	x := 0
	for i := range n {
		p.must(p.at < 8*len(p.b), "cut")
		x |= int(p.b[p.at/8]>>(p.at%8)&1) << i
		p.at++
	}
	return x
}

func (p *plain) symbol(f *finder) int {
	c := code{}
	for {
		c = code{c.bits<<1 | p.num(1), c.n + 1}
		if s, is := f.by[c]; is {
			f.times[s]++
			return s
		}
		p.must(c.n < 15, "no code")
	}
}

func (p *plain) stored(x *block) {
	x.fill = p.num(-p.at & 7)
	n := p.num(16)
	p.must(p.num(16) == 65535-n, "not turned")
	for range n {
		p.out = append(p.out, byte(p.num(8)))
	}
}

func (p *plain) own(x *block) {
	symbols, distances, kinds := p.num(5)+257, p.num(5)+1, p.num(4)+4
	p.must(symbols <= 286 && distances <= 30, "too many lengths")
	x.kinds = make([]int, 19)
	for _, s := range lengthOrder[:kinds] {
		x.kinds[s] = p.num(3)
	}
	f := newFinder(x.kinds)
	var row []int
	for len(row) < symbols+distances {
		switch s := p.symbol(f); s {
		case 16:
			p.must(len(row) > 0, "no length ahead")
			row = append(row, same(3+p.num(2), row[len(row)-1])...)
		case 17:
			row = append(row, make([]int, 3+p.num(3))...)
		case 18:
			row = append(row, make([]int, 11+p.num(7))...)
		default:
			row = append(row, s)
		}
	}
	p.must(len(row) == symbols+distances, "more lengths than all")
	x.symbols, x.distances, x.timesK = row[:symbols], row[symbols:], f.times
}

func (p *plain) coded(x *block) {
	symbols, distances := newFinder(x.symbols), newFinder(x.distances)
	for s := p.symbol(symbols); s != 256; s = p.symbol(symbols) {
		if s < 256 {
			p.out = append(p.out, byte(s))
			continue
		}
		p.must(s <= 285, "no length")
		n := lengthTable[s-257].number + p.num(lengthTable[s-257].bits)
		d := p.symbol(distances)
		far := distanceTable[d].number + p.num(distanceTable[d].bits)
		p.must(far <= len(p.out), "too far")
		for range n {
			p.out = append(p.out, p.out[len(p.out)-far])
		}
		x.repetitions++
	}
	x.timesS, x.timesD = symbols.times, distances.times
}

// plainly reads packed bytes, all of them.
func plainly(t *testing.T, b []byte) *plain {
	t.Helper()
	p := &plain{T: t, b: b}
	for last := false; !last; {
		last = p.num(1) == 1
		x := block{last: last, kind: p.num(2), from: len(p.out)}
		switch x.kind {
		case deflate.Stored:
			p.stored(&x)
		case deflate.Fixed:
			x.symbols = slices.Concat(same(144, 8), same(112, 9), same(24, 7), same(8, 8))
			x.distances = same(30, 5)
			p.coded(&x)
		case deflate.Dynamic:
			p.own(&x)
			p.coded(&x)
		default:
			p.must(false, "kind 3")
		}
		x.to = len(p.out)
		p.blocks = append(p.blocks, x)
	}
	p.must((p.at+7)/8 == len(b), "more bytes behind")
	return p
}

// deepest is how many bits the longest code would have, were there no bound, of symbols that come so many times.
func deepest(times []int) int {
	type tree struct{ weight, deep int }
	var l []tree
	for _, n := range times {
		if n > 0 {
			l = append(l, tree{n, 0})
		}
	}
	for len(l) > 1 {
		slices.SortFunc(l, func(a, b tree) int { return a.weight - b.weight })
		l = append(l[2:], tree{l[0].weight + l[1].weight, max(l[0].deep, l[1].deep) + 1})
	}
	return l[0].deep
}

// noise is n bytes of so many values.
func noise(r *rand.Rand, n, of int) []byte {
	b := make([]byte, n)
	for i := range b {
		b[i] = byte(r.IntN(of))
	}
	return b
}

// skewed is n bytes of which each further value comes about so many times less often than the one ahead.
func skewed(r *rand.Rand, n int, less float64) []byte {
	b := make([]byte, n)
	for i := range b {
		for b[i] < 255 && r.Float64()*less < 1 {
			b[i]++
		}
	}
	return b
}

// distinct is n bytes, at most 65536, in which no three that follow one another come again.
func distinct(n int) []byte {
	var b []byte
	seen := map[[3]byte]bool{}
	r := rand.New(rand.NewPCG(7, 0))
	for len(b) < n {
		b = append(b, byte(r.IntN(256)))
		if len(b) < 3 {
			continue
		}
		if last := [3]byte(b[len(b)-3:]); seen[last] {
			b = b[:len(b)-1]
		} else {
			seen[last] = true
		}
	}
	return b
}

// fading is bytes of which parts come again from so far, of each nearer distance much less often.
func fading() []byte {
	r := rand.New(rand.NewPCG(7, 5))
	b := noise(r, 32768, 256)
	times := 8000
	for _, x := range slices.Backward(distanceTable[12:]) {
		for range times {
			from := len(b) - x.number
			b = append(b, b[from:from+6]...)
			b = append(b, noise(r, 2, 256)...)
		}
		times = max(times*4/7, 1)
	}
	return b
}

package deflate

import (
	"slices"

	"catchword/inflate"
)

const (
	// longestCode is how many bits a code has at most, mostLengths how many lengths there are in all.
	longestCode = 15
	mostLengths = lastLength + 1 + lastDistance + 1
	// The symbols that stand for more than one length: for the length ahead some times more, and for zeros, few and many.
	again     = 16
	fewZeros  = 17
	manyZeros = 18
)

// Run is a symbol of lengths, and what is put behind it.
type Run struct{ Symbol, Value int }

// bits are how many bits the value has.
func (r Run) bits() int {
	switch r.Symbol {
	case again:
		return 2
	case fewZeros:
		return 3
	case manyZeros:
		return 7
	}
	return 0
}

// Runs are lengths as symbols.
func Runs(lengths []int) []Run {
	if len(lengths) > mostLengths || slices.ContainsFunc(lengths, func(n int) bool { return n < 0 || n > longestCode }) {
		return nil
	}
	var out []Run
	for len(lengths) > 0 {
		n := alike(lengths)
		out = append(out, row(lengths[0], n)...)
		lengths = lengths[n:]
	}
	return out
}

// alike is how many lengths at the beginning are the same.
func alike(lengths []int) int {
	n := slices.IndexFunc(lengths, func(x int) bool { return x != lengths[0] })
	if n < 0 {
		return len(lengths)
	}
	return n
}

// row is n times a length.
func row(length, n int) []Run {
	var out []Run
	// many takes as many as may be by a symbol that stands for least at least, and for most at most.
	many := func(symbol, least, most int) {
		for n >= least {
			k := min(n, most)
			out = append(out, Run{symbol, k - least})
			n -= k
		}
	}
	if length == 0 {
		many(manyZeros, 11, 138)
		many(fewZeros, 3, 10)
	} else {
		out = append(out, Run{Symbol: length})
		n--
		many(again, 3, 6)
	}
	for range n {
		out = append(out, Run{Symbol: length})
	}
	return out
}

// inOrder are the lengths of lengths, in the order in which they are told.
func inOrder(lengths []int) []int {
	var out []int
	for _, symbol := range inflate.Order() {
		out = append(out, lengths[symbol])
	}
	return out
}

// trim is a list without the zeros at its end, but for so many as must be told.
func trim(l []int, least int) []int {
	n := len(l)
	for n > least && l[n-1] == 0 {
		n--
	}
	return l[:n]
}

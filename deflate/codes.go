package deflate

import (
	"sort"

	"catchword/huff"
	"catchword/inflate"
	"catchword/lz"
)

const (
	// end is the symbol that ends a block.
	end = 256
	// firstLength and lastLength are the symbols of lengths, firstDistance and lastDistance those of distances.
	firstLength, lastLength     = 257, 285
	firstDistance, lastDistance = 0, 29
	// shortest and longest are the lengths of repetitions, nearest and farthest their distances.
	shortest, longest = 3, 258
	nearest, farthest = 1, 32768
)

// Symbol is a length's.
func Symbol(length int) (int, int, int) {
	if length < shortest || length > longest {
		return 0, 0, 0
	}
	return symbolOf(length, firstLength, lastLength, inflate.Length)
}

// Far is a distance's.
func Far(distance int) (int, int, int) {
	if distance < nearest || distance > farthest {
		return -1, 0, 0
	}
	return symbolOf(distance, firstDistance, lastDistance, inflate.Distance)
}

// symbolOf is the symbol, from the first one to the last one, of the greatest number that is at most x, what is left of x, and how many bits that has. The numbers rise as the symbols do.
func symbolOf(x, first, last int, number func(symbol int) (int, int, bool)) (int, int, int) {
	behind := first + sort.Search(last-first+1, func(i int) bool {
		n, _, _ := number(first + i)
		return n > x
	})
	n, k, _ := number(behind - 1)
	return behind - 1, x - n, k
}

// teller is told a symbol, and the number of so many bits that is put behind it.
type teller func(symbol, value, bits int)

// tell tells tokens' symbols, each of a length with that of its distance behind, and the one that ends the block.
func tell(l []lz.Token, symbol, distance teller) {
	for _, x := range l {
		if x.Length == 0 {
			symbol(int(x.Byte), 0, 0)
			continue
		}
		symbol(Symbol(x.Length))
		distance(Far(x.Far))
	}
	symbol(end, 0, 0)
}

// counts are how many times tokens have each symbol, and each one of a distance.
func counts(l []lz.Token) (symbols, distances []int) {
	symbols, distances = make([]int, lastLength+1), make([]int, lastDistance+1)
	tell(l, counter(symbols), counter(distances))
	return symbols, distances
}

// counter counts the symbols that it is told.
func counter(times []int) teller {
	return func(symbol, _, _ int) { times[symbol]++ }
}

// codes are those of a block: of its symbols, and of its distances.
type codes struct{ symbols, distances *huff.Table }

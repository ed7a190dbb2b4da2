package adler

import "slices"

// base is what both halves of a sum are below.
const base = 65521

// stretch is how many bytes are taken before the halves are brought below base again: within so many neither goes around.
const stretch = 1 << 20

// halves are those of a sum, each below base. The low one is counted from 0 on, not from 1, so that the zero value is the sum of no bytes.
type halves struct{ low, high uint64 }

// part parts a sum into its halves, and tells whether it has two that may be.
func part(x uint32) (halves, bool) {
	low, high := uint64(x%65536), uint64(x>>16)
	return halves{(low + base - 1) % base, high}, low < base && high < base
}

// take puts bytes behind.
func (h *halves) take(b []byte) {
	for piece := range slices.Chunk(b, stretch) {
		low, high := h.low, h.high
		for _, x := range piece {
			low += uint64(x)
			high += low + 1
		}
		h.low, h.high = low%base, high%base
	}
}

// join puts n bytes behind of which the halves alone are known: what the low half has already counts once more at each of them.
func (h *halves) join(y halves, n int) {
	h.high = (h.high + y.high + uint64(n%base)*h.low) % base
	h.low = (h.low + y.low) % base
}

// sum is both together.
func (h halves) sum() uint32 {
	return uint32(h.high<<16 | (h.low+1)%base)
}

package zlib

import "catchword/api"

const (
	// headSize is how many bytes a head has.
	headSize = 2
	// method is what a head's first byte has in its low four bits, farthest what it has in its high ones at most: how far repetitions reach.
	method   = 8
	farthest = 7
	// dictionary is the bit of the second byte that says that bytes are known ahead.
	dictionary = 32
	// divisor is what a head, as one number, is a multiple of.
	divisor = 31
	// usual is the level of what Pack packs, and of levels that there are not; mostLevel is the last one.
	usual, mostLevel = 2, 3
)

// Head is a head.
func Head(level int) []byte {
	if level < 0 || level > mostLevel {
		level = usual
	}
	first, second := farthest<<4|method, level<<6
	for !isHead(first, second) {
		second++
	}
	return []byte{byte(first), byte(second)}
}

// Check asks whether bytes begin with one.
func Check(b []byte) api.Errno {
	if len(b) < headSize {
		return api.ErrCut
	}
	if !isHead(int(b[0]), int(b[1])) {
		return api.ErrForm
	}
	return api.OK
}

// isHead tells whether two bytes are a head.
func isHead(first, second int) bool {
	return first&15 == method && first>>4 <= farthest && second&dictionary == 0 && (256*first+second)%divisor == 0
}

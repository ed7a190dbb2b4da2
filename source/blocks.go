package source

// size is how many bytes a block has.
const size = 1024

// block are a file's bytes from a place on that its number says.
type block [size]byte

// blocks are those of which a byte is known, by their numbers. Far more bytes than are known may a file have.
type blocks map[int]*block

// of is the block in which a place stands.
func (l blocks) of(at int) *block {
	b := l[at/size]
	if b == nil {
		b = new(block)
		l[at/size] = b
	}
	return b
}

// fill puts bytes in, from a place on.
func (l blocks) fill(at int, b []byte) {
	for len(b) > 0 {
		n := copy(l.of(at)[at%size:], b)
		at += n
		b = b[n:]
	}
}

// read are n bytes from a place on, all of which were put in.
func (l blocks) read(at, n int) []byte {
	out := make([]byte, n)
	for k := 0; k < n; {
		k += copy(out[k:], l[(at+k)/size][(at+k)%size:])
	}
	return out
}

// again are the same blocks, of which nobody else has one.
func (l blocks) again() blocks {
	out := blocks{}
	for n, b := range l {
		own := *b
		out[n] = &own
	}
	return out
}

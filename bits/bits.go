// Package bits is layer 1: see shared/doc/01-bits.md.
package bits

import (
	mathbits "math/bits"

	"catchword/api"
)

// most is how many bits a number has at most.
const most = 32

// place is where a writer or a reader stands: so many bits on, counted in each byte from one end. Only those that a call made say so.
type place struct {
	made, high bool
	at         int
}

// room is how many bits of the byte in which the place stands are still ahead: all, where a byte begins.
func (p *place) room() int { return 8 - p.at%8 }

// gap is how many bits lie ahead of the next byte's beginning, or none, where one begins.
func (p *place) gap() int { return -p.at & 7 }

// above is how far above the lowest of n bits the next k ones stand, when d of the n are behind. It holds for a byte and for a number, as both go from the same end.
func (p *place) above(n, d, k int) int {
	if p.high {
		return n - d - k
	}
	return d
}

// inByte is how far above the lowest bit of its byte the next k bits stand.
func (p *place) inByte(k int) int { return p.above(8, p.at%8, k) }

// Writer writes bits. All bits of its bytes that are behind its place are 0, so that Align and Bytes need not fill any.
type Writer struct {
	place
	b []byte
}

// New is one without bits.
func New(high bool) *Writer {
	return &Writer{place: place{made: true, high: high}}
}

// ready tells whether a call made the writer.
func (w *Writer) ready() bool { return w != nil && w.made }

// Put puts a number behind.
func (w *Writer) Put(x uint32, n int) api.Errno {
	if !w.ready() {
		return api.ErrNil
	}
	if n < 0 || n > most || Width(x) > n {
		return api.ErrArg
	}
	for done := 0; done < n; {
		if w.gap() == 0 {
			w.b = append(w.b, 0)
		}
		k := min(n-done, w.room())
		piece := x >> w.above(n, done, k) & (1<<k - 1)
		w.b[len(w.b)-1] |= byte(piece << w.inByte(k))
		w.at += k
		done += k
	}
	return api.OK
}

// Align fills a byte.
func (w *Writer) Align() {
	if w.ready() {
		w.at += w.gap()
	}
}

// Bytes are all bits.
func (w *Writer) Bytes() []byte {
	if !w.ready() {
		return nil
	}
	return append([]byte(nil), w.b...)
}

// Len is how many there are.
func (w *Writer) Len() int {
	if !w.ready() {
		return 0
	}
	return w.at
}

// Reader reads bits.
type Reader struct {
	place
	b []byte
}

// Read is one of bytes. It has a copy of them: the caller may change them.
func Read(b []byte, high bool) *Reader {
	return &Reader{place: place{made: true, high: high}, b: append([]byte(nil), b...)}
}

// ready tells whether a call made the reader.
func (r *Reader) ready() bool { return r != nil && r.made }

// Get is the next number.
func (r *Reader) Get(n int) (uint32, api.Errno) {
	if !r.ready() {
		return 0, api.ErrNil
	}
	if n < 0 || n > most {
		return 0, api.ErrArg
	}
	if n > r.Left() {
		return 0, api.ErrCut
	}
	x := uint32(0)
	for done := 0; done < n; {
		k := min(n-done, r.room())
		piece := uint32(r.b[r.at/8]) >> r.inByte(k) & (1<<k - 1)
		x |= piece << r.above(n, done, k)
		r.at += k
		done += k
	}
	return x, api.OK
}

// Align goes on to a byte.
func (r *Reader) Align() {
	if r.ready() {
		r.at += r.gap()
	}
}

// Left is how many bits are left.
func (r *Reader) Left() int {
	if !r.ready() {
		return 0
	}
	return 8*len(r.b) - r.at
}

// At is how many were taken.
func (r *Reader) At() int {
	if !r.ready() {
		return 0
	}
	return r.at
}

// Width is how many bits a number has.
func Width(x uint32) int { return mathbits.Len32(x) }

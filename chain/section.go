package chain

import (
	"catchword/api"
	"catchword/source"
	"catchword/value"
	"catchword/xref"
)

// nowhere is the place of an object that is not there.
const nowhere = -1

// has asks whether a place is one of the file's bytes.
func has(s *source.Source, at int) bool { return at >= 0 && at < s.Total() }

// section is the one that stands at a place of the file. It is asked of few bytes first, and then of twice as many, as a file may have far more behind a section than in it: what first bytes tell, all of them tell.
func section(s *source.Source, at int) (xref.Section, int, api.Errno) {
	for most := api.Probe; ; most *= 2 {
		b, last := s.Read(at, most)
		x, _, e := xref.Parse(b, 0, last)
		switch {
		case e == api.OK:
			return x, 0, api.OK
		case e != api.ErrMore:
			return xref.Section{}, 0, api.ErrXref
		case len(b) < most:
			return xref.Section{}, s.First(at), api.ErrMore
		}
	}
}

// prev is the place of the section ahead of one, and whether there is one.
func prev(x xref.Section) (int, bool, api.Errno) {
	v, more := value.Get(x.Trailer, "Prev")
	if more && v.Kind != api.Int {
		return 0, false, api.ErrXref
	}
	return v.N, more, api.OK
}

// said is what a trailer says: the number behind the greatest one, and the root's.
func said(trailer api.Value) (int, int, api.Errno) {
	size, _ := value.Get(trailer, "Size") // nothing is no Int
	if size.Kind != api.Int || size.N < 1 || size.N > api.MaxObjects+1 {
		return 0, 0, api.ErrXref
	}
	root, _ := value.Get(trailer, "Root")
	if root.Kind != api.Ref {
		return 0, 0, api.ErrRoot
	}
	return size.N, root.N, api.OK
}

// place is where sections say that an object stands. The first one that knows its number holds, even where it says that there is none.
func place(l []xref.Section, n int) int {
	for _, x := range l {
		e, known := xref.Find(x, n)
		switch {
		case known && e.Used && e.Gen == 0:
			return e.At
		case known:
			return nowhere
		}
	}
	return nowhere
}

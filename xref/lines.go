package xref

import (
	"bytes"

	"catchword/api"
	"catchword/num"
	"catchword/show"
	"catchword/value"
)

// printed are the bytes of a section that may be.
func printed(s Section) []byte {
	var b bytes.Buffer
	b.WriteString("xref\n")
	for _, g := range s.Groups {
		putGroup(&b, g)
	}
	form, _ := show.Value(s.Trailer)
	b.WriteString("trailer\n" + form + "\n")
	return b.Bytes()
}

// putGroup puts a group that may be.
func putGroup(b *bytes.Buffer, g api.Group) {
	b.WriteString(digits(g.First) + " " + digits(len(g.Entries)) + "\n")
	for _, e := range g.Entries {
		line, _ := Entry(e)
		b.WriteString(line)
	}
}

// digits are a number's, without zeros ahead.
func digits(n int) string {
	s, _ := num.Print(value.IntOf(n))
	return s
}

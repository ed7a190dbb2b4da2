package inflate_test

import (
	"cmp"
	"fmt"
	"math/rand/v2"
	"slices"
	"strconv"
	"strings"

	"catchword/api"
)

// num is a number of n bits as 0 and 1, the lowest bit first.
func num(x, n int) string {
	b := []byte(code(x, n))
	slices.Reverse(b)
	return string(b)
}

// code is a number of n bits as 0 and 1, the highest bit first.
func code(x, n int) string {
	if n == 0 {
		return ""
	}
	return fmt.Sprintf("%0*b", n, x)
}

// head begins a block.
func head(last bool, kind int) string {
	if last {
		return "1" + num(kind, 2)
	}
	return "0" + num(kind, 2)
}

// fill is 0 up to the next byte.
func fill(text string) string { return text + strings.Repeat("0", -len(text)&7) }

// pack is a text of 0 and 1 as bytes, each from its lowest bit on.
func pack(text string) []byte {
	text = fill(text)
	var b []byte
	for i := 0; i < len(text); i += 8 {
		x := byte(0)
		for k := range 8 {
			x |= (text[i+k] - '0') << k
		}
		b = append(b, x)
	}
	return b
}

// unpack is bytes as a text of 0 and 1.
func unpack(b []byte) string {
	var t strings.Builder
	for _, x := range b {
		t.WriteString(num(int(x), 8))
	}
	return t.String()
}

// words are the codes of lengths, as texts of 0 and 1; empty ones of symbols without a code.
func words(lengths []int) []string {
	var order []int
	for s, n := range lengths {
		if n > 0 {
			order = append(order, s)
		}
	}
	slices.SortStableFunc(order, func(a, b int) int { return cmp.Compare(lengths[a], lengths[b]) })
	out := make([]string, len(lengths))
	for i, s := range order {
		out[s] = strings.Repeat("0", lengths[s])
		if i > 0 {
			ahead := out[order[i-1]]
			x, _ := strconv.ParseUint(ahead, 2, 32)
			out[s] = code(int(x)+1, len(ahead)) + strings.Repeat("0", lengths[s]-len(ahead))
		}
	}
	return out
}

// mayBe says whether lengths may be: all are from 0 to 15 here.
func mayBe(lengths []int) bool {
	sum := 0
	for _, n := range lengths {
		if n > 0 {
			sum += 1 << (15 - n)
		}
	}
	return sum <= 1<<15
}

// extra are numbers of symbols, and how many bits are put to each, as RFC 1951 writes them out.
type extra struct{ number, bits int }

var lengthTable = []extra{{3, 0}, {4, 0}, {5, 0}, {6, 0}, {7, 0}, {8, 0}, {9, 0}, {10, 0}, {11, 1}, {13, 1}, {15, 1}, {17, 1}, {19, 2}, {23, 2}, {27, 2}, {31, 2}, {35, 3}, {43, 3}, {51, 3}, {59, 3}, {67, 4}, {83, 4}, {99, 4}, {115, 4}, {131, 5}, {163, 5}, {195, 5}, {227, 5}, {258, 0}}

var distanceTable = []extra{{1, 0}, {2, 0}, {3, 0}, {4, 0}, {5, 1}, {7, 1}, {9, 2}, {13, 2}, {17, 3}, {25, 3}, {33, 4}, {49, 4}, {65, 5}, {97, 5}, {129, 6}, {193, 6}, {257, 7}, {385, 7}, {513, 8}, {769, 8}, {1025, 9}, {1537, 9}, {2049, 10}, {3073, 10}, {4097, 11}, {6145, 11}, {8193, 12}, {12289, 12}, {16385, 13}, {24577, 13}}

var lengthOrder = []int{16, 17, 18, 0, 8, 7, 9, 6, 10, 5, 11, 4, 12, 3, 13, 2, 14, 1, 15}

// fixedLengths are those of the fixed symbols, and distances.
func fixedLengths() ([]int, []int) {
	l := make([]int, 288)
	for s := range l {
		switch {
		case s <= 143, s >= 280:
			l[s] = 8
		case s <= 255:
			l[s] = 9
		default:
			l[s] = 7
		}
	}
	return l, slices.Repeat([]int{5}, 30)
}

// finder finds symbols by their codes.
type finder struct {
	by   map[string]int
	most int
}

func newFinder(lengths []int) finder {
	f := finder{by: map[string]int{}}
	for s, c := range words(lengths) {
		if c != "" {
			f.by[c], f.most = s, max(f.most, len(c))
		}
	}
	return f
}

// plain unpacks by the chapter's words, from a text of 0 and 1; an error is a panic.
type plain struct {
	text     string
	at, most int
	out      []byte
}

func (p *plain) refuse(is bool, e api.Errno) {
	if is {
		panic(e)
	}
}

func (p *plain) num(n int) int {
	p.refuse(len(p.text)-p.at < n, api.ErrCut)
	x := 0
	for i := range n {
		x += int(p.text[p.at+i]-'0') << i
	}
	p.at += n
	return x
}

func (p *plain) symbol(f finder) int {
	for n := 0; ; n++ {
		if s, is := f.by[p.text[p.at:p.at+n]]; is {
			p.at += n
			return s
		}
		p.refuse(n == f.most, api.ErrCode)
		p.refuse(p.at+n == len(p.text), api.ErrCut)
	}
}

func (p *plain) stored() {
	for p.at%8 != 0 {
		p.at++
	}
	n := p.num(16)
	p.refuse(p.num(16) != 65535-n, api.ErrForm)
	for range n {
		x := p.num(8)
		p.refuse(len(p.out) >= p.most, api.ErrLong)
		p.out = append(p.out, byte(x))
	}
}

func (p *plain) own() (finder, finder) {
	symbols, distances, kinds := p.num(5)+257, p.num(5)+1, p.num(4)+4
	p.refuse(symbols > 286 || distances > 30, api.ErrForm)
	first := make([]int, 19)
	for i := range kinds {
		first[lengthOrder[i]] = p.num(3)
	}
	p.refuse(!mayBe(first), api.ErrCode)
	f := newFinder(first)
	var row []int
	for len(row) < symbols+distances {
		switch s := p.symbol(f); s {
		case 16:
			n := 3 + p.num(2)
			p.refuse(len(row) == 0, api.ErrForm)
			row = append(row, slices.Repeat(row[len(row)-1:], n)...)
		case 17:
			row = append(row, make([]int, 3+p.num(3))...)
		case 18:
			row = append(row, make([]int, 11+p.num(7))...)
		default:
			row = append(row, s)
		}
	}
	p.refuse(len(row) > symbols+distances, api.ErrForm)
	p.refuse(row[256] == 0, api.ErrForm)
	p.refuse(!mayBe(row[:symbols]) || !mayBe(row[symbols:]), api.ErrCode)
	return newFinder(row[:symbols]), newFinder(row[symbols:])
}

func (p *plain) coded(symbols, distances finder) {
	for {
		s := p.symbol(symbols)
		if s == 256 {
			return
		}
		if s < 256 {
			p.refuse(len(p.out) >= p.most, api.ErrLong)
			p.out = append(p.out, byte(s))
			continue
		}
		p.refuse(s > 285, api.ErrForm)
		x := lengthTable[s-257]
		n := x.number + p.num(x.bits)
		y := distanceTable[p.symbol(distances)]
		far := y.number + p.num(y.bits)
		p.refuse(far > len(p.out), api.ErrFar)
		p.refuse(len(p.out)+n > p.most, api.ErrLong)
		for range n {
			p.out = append(p.out, p.out[len(p.out)-far])
		}
	}
}

func (p *plain) blocks() {
	for last := false; !last; {
		last = p.num(1) == 1
		switch p.num(2) {
		case 0:
			p.stored()
		case 1:
			a, b := fixedLengths()
			p.coded(newFinder(a), newFinder(b))
		case 2:
			p.coded(p.own())
		default:
			panic(api.ErrForm)
		}
	}
}

// plainly is what the chapter's words say of bytes.
func plainly(b []byte, most int) (out []byte, n int, e api.Errno) {
	defer func() {
		if x, is := recover().(api.Errno); is {
			out, n, e = nil, 0, x
		}
	}()
	p := &plain{text: unpack(b), most: most}
	p.blocks()
	return p.out, (p.at + 7) / 8, api.OK
}

// maker makes packed bytes, as a text of 0 and 1, that mostly may be.
type maker struct {
	*rand.Rand
	text string
	n    int // bytes that come of it
}

func (m *maker) one(of int) bool { return m.IntN(of) == 0 }

// tree are n lengths, at most most, of which some symbols have those of a code without room, must among them.
func (m *maker) tree(n, most, must int) []int {
	l := make([]int, n)
	if must >= 0 {
		l[must] = 1
	} else if m.one(3) {
		return l
	} else {
		l[m.IntN(n)] = 1
	}
	leaves := []int{slices.Index(l, 1)}
	for range 1 + m.IntN(n)>>m.IntN(5) {
		s, i := m.IntN(n), leaves[m.IntN(len(leaves))]
		switch {
		case l[s] > 0 || l[i] == most:
			continue
		case len(leaves) == 1:
			l[s] = 1
		default:
			l[i]++
			l[s] = l[i]
		}
		leaves = append(leaves, s)
	}
	if m.one(20) {
		l[m.IntN(n)] = m.IntN(most + 1)
	}
	return l
}

// runs tells lengths by symbols 0 to 18, and the bits behind them.
func (m *maker) runs(l []int) (out []extra, texts []string) {
	put := func(s, x, n int) {
		out, texts = append(out, extra{s, n}), append(texts, num(x, n))
	}
	for i := 0; i < len(l); {
		n := 1
		for i+n < len(l) && l[i+n] == l[i] {
			n++
		}
		switch {
		case l[i] == 0 && n >= 11 && !m.one(8):
			n = 11 + m.IntN(min(n, 138)-10)
			put(18, n-11, 7)
		case l[i] == 0 && n >= 3 && !m.one(8):
			n = 3 + m.IntN(min(n, 10)-2)
			put(17, n-3, 3)
		case i > 0 && l[i-1] == l[i] && n >= 3 && !m.one(8):
			n = 3 + m.IntN(min(n, 6)-2)
			put(16, n-3, 2)
		default:
			n = 1
			put(l[i], 0, 0)
		}
		i += n
	}
	return out, texts
}

// own puts the head of a block of kind 2, and answers its lengths.
func (m *maker) own() ([]int, []int) {
	symbols, distances := m.tree(257+m.IntN(30), 15, 256), m.tree(1+m.IntN(30), 15, -1)
	symbols[256] = max(symbols[256], 1-m.IntN(30))
	runs, texts := m.runs(slices.Concat(symbols, distances))
	first := slices.Repeat([]int{5}, 19)
	if m.one(2) {
		first = make([]int, 19)
		for _, x := range runs {
			first[x.number] = 5
		}
	}
	if m.one(30) {
		first[m.IntN(19)] = m.IntN(8)
	}
	kinds := 19
	for kinds > 4 && first[lengthOrder[kinds-1]] == 0 {
		kinds--
	}
	m.text += num(len(symbols)-257, 5) + num(len(distances)-1, 5) + num(kinds-4, 4)
	for _, s := range lengthOrder[:kinds] {
		m.text += num(first[s], 3)
	}
	if !mayBe(first) {
		return nil, nil
	}
	by := words(first)
	for i, x := range runs {
		m.text += by[x.number] + texts[i]
	}
	return symbols, distances
}

// coded puts symbols of lengths, and the one that ends the block.
func (m *maker) coded(symbols, distances []int) {
	if len(symbols) == 0 || !mayBe(symbols) || !mayBe(distances) {
		return
	}
	byS, byD := words(symbols), words(distances)
	for range m.IntN(40) {
		s := m.IntN(len(symbols))
		if byS[s] == "" || s == 256 || s > 285 && !m.one(40) {
			continue
		}
		if s < 256 || s > 285 {
			m.text += byS[s]
			m.n++
			continue
		}
		d := m.IntN(len(distances))
		x, y := lengthTable[s-257], distanceTable[d]
		a, b := m.IntN(1<<x.bits), m.IntN(1<<y.bits)
		if byD[d] == "" || y.number+b > m.n && !m.one(60) {
			continue
		}
		m.text += byS[s] + num(a, x.bits) + byD[d] + num(b, y.bits)
		m.n += x.number + a
	}
	m.text += byS[256]
}

// stored puts a block of kind 0, behind its head.
func (m *maker) stored() {
	for len(m.text)%8 != 0 {
		m.text += strconv.Itoa(m.IntN(2))
	}
	n := m.IntN(300) >> m.IntN(9)
	m.text += num(n, 16) + num(65535-n, 16)
	for range n {
		m.text += num(m.IntN(256), 8)
	}
	m.n += n
}

// blocks are packed bytes that mostly may be, and about how many bytes come of them.
func (m *maker) blocks() ([]byte, int) {
	for last := false; !last; {
		last = m.one(3)
		kind := m.IntN(3)
		m.text += head(last, kind)
		switch kind {
		case 0:
			m.stored()
		case 1:
			m.coded(fixedLengths())
		case 2:
			m.coded(m.own())
		}
	}
	return pack(m.text), m.n
}

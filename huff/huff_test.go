package huff_test

import (
	"cmp"
	"fmt"
	"math"
	"math/big"
	"math/rand/v2"
	"slices"
	"strconv"
	"strings"
	"testing"

	"catchword/api"
	"catchword/bits"
	"catchword/huff"
)

var ends = []bool{true, false}

// same are n numbers x.
func same(n, x int) []int { return slices.Repeat([]int{x}, n) }

// stairs are 1, 2 and so on up to n, and n once more: they leave no room.
func stairs(n int) []int {
	var l []int
	for k := range n {
		l = append(l, k+1)
	}
	return append(l, n)
}

// room is how much of the whole codes take, by the chapter's words.
func room(lengths []int) *big.Rat {
	sum := new(big.Rat)
	for _, n := range lengths {
		if n > 0 {
			sum.Add(sum, big.NewRat(1, 1<<n))
		}
	}
	return sum
}

// mayBe says by the chapter's words whether lengths may be, and whether they are complete.
func mayBe(lengths []int) (may, complete bool) {
	if len(lengths) < 1 || len(lengths) > 320 || slices.Min(lengths) < 0 || slices.Max(lengths) > 15 {
		return false, false
	}
	side := room(lengths).Cmp(big.NewRat(1, 1))
	return side <= 0, side == 0
}

// words are the codes as texts of 0 and 1, by the chapter's words; an empty one of symbols without a code.
func words(lengths []int) []string {
	order := make([]int, 0, len(lengths))
	for s, n := range lengths {
		if n > 0 {
			order = append(order, s)
		}
	}
	slices.SortStableFunc(order, func(a, b int) int { return cmp.Compare(lengths[a], lengths[b]) })
	out := make([]string, len(lengths))
	for i, s := range order {
		if i == 0 {
			out[s] = strings.Repeat("0", lengths[s])
			continue
		}
		ahead := order[i-1]
		x, _ := strconv.ParseUint(out[ahead], 2, 32)
		out[s] = fmt.Sprintf("%0*b", lengths[ahead], x+1) + strings.Repeat("0", lengths[s]-lengths[ahead])
	}
	return out
}

// table is one that must be.
func table(t *testing.T, lengths ...int) *huff.Table {
	t.Helper()
	u, e := huff.New(lengths)
	if e != api.OK || u == nil {
		t.Fatalf("New(%v): %v, %v", lengths, u, e)
	}
	return u
}

// reader stands ahead of the bits of a text of 0 and 1, with no bit behind them.
func reader(text string, high bool) *bits.Reader {
	all := strings.Repeat("0", -len(text)&7) + text
	w := bits.New(high)
	for _, x := range []byte(all) {
		w.Put(uint32(x-'0'), 1)
	}
	r := bits.Read(w.Bytes(), high)
	for range len(all) - len(text) {
		r.Get(1)
	}
	return r
}

// text is all that a writer has, as 0 and 1.
func text(w *bits.Writer, high bool) string {
	r := bits.Read(w.Bytes(), high)
	var b strings.Builder
	for range w.Len() {
		x, _ := r.Get(1)
		b.WriteByte(byte('0' + x))
	}
	return b.String()
}

// find is what Get answers, and how many bits it takes, by the chapter's words.
func find(codes []string, text string) (symbol int, e api.Errno, took int) {
	most := 0
	for _, c := range codes {
		most = max(most, len(c))
	}
	for k := 0; ; k++ {
		if s := slices.Index(codes, text[:k]); k > 0 && s >= 0 {
			return s, api.OK, k
		}
		if k == most {
			return 0, api.ErrCode, k
		}
		if k == len(text) {
			return 0, api.ErrCut, k
		}
	}
}

// gets asks for the next symbol, and how many bits are taken.
func gets(t *testing.T, u *huff.Table, r *bits.Reader, want int, e api.Errno, took int) {
	t.Helper()
	at, left := r.At(), r.Left()
	s, got := u.Get(r)
	if s != want || got != e || r.At() != at+took || r.Left() != left-took {
		t.Errorf("%v: Get: %d, %v, %d bits taken; want %d, %v, %d", u.Lengths(), s, got, r.At()-at, want, e, took)
	}
}

// getsAll asks for a table's answer to all bits of a text, from both ends.
func getsAll(t *testing.T, u *huff.Table, codes []string, text string) {
	t.Helper()
	for _, high := range ends {
		s, e, took := find(codes, text)
		gets(t, u, reader(text, high), s, e, took)
	}
}

// lists are all lists of n numbers from 0 to most.
func lists(n, most int) [][]int {
	out := [][]int{{}}
	for range n {
		var next [][]int
		for _, l := range out {
			for x := range most + 1 {
				next = append(next, append(slices.Clone(l), x))
			}
		}
		out = next
	}
	return out
}

// complete are lengths, n of them, that leave no room, mixed with some of 0.
func complete(rnd *rand.Rand, n int) []int {
	l := []int{0}
	for len(l) < n {
		i := rnd.IntN(len(l))
		if l[i] < 15 {
			l[i]++
			l = append(l, l[i])
		}
	}
	for len(l) < 320 && rnd.IntN(5) > 0 {
		l = append(l, 0)
	}
	rnd.Shuffle(len(l), func(i, j int) { l[i], l[j] = l[j], l[i] })
	return l
}

// several are lengths of many kinds that may be.
func several() [][]int {
	out := [][]int{
		{2, 1, 3, 3}, {0}, {1}, {15}, {0, 1}, {1, 0}, {1, 1}, {2}, {2, 2, 2}, {0, 0, 3, 0}, same(320, 0), same(320, 9), same(320, 15), same(256, 8), stairs(15), {15, 1},
		append(same(192, 8), same(128, 9)...), append(same(128, 9), same(192, 8)...), append(append(append(same(144, 8), same(112, 9)...), same(24, 7)...), same(8, 8)...), same(30, 5),
	}
	for seed := range uint64(120) {
		rnd := rand.New(rand.NewPCG(seed, 4))
		l := complete(rnd, 2+rnd.IntN(300)>>rnd.IntN(8))
		if seed%2 == 0 { // some room is left
			for range 1 + rnd.IntN(len(l)) {
				l[rnd.IntN(len(l))] = 0
			}
		}
		if seed%5 == 0 {
			for i := range l {
				if l[i] > 0 && l[i] < 15 {
					l[i] += rnd.IntN(16 - l[i])
				}
			}
		}
		out = append(out, l)
	}
	return out
}

// codesAre asks for all that is told of lengths that may be.
func codesAre(t *testing.T, lengths []int, want []string) {
	t.Helper()
	c, e := huff.Codes(lengths)
	if e != api.OK || len(c) != len(lengths) {
		t.Fatalf("Codes(%v): %v, %v", lengths, c, e)
	}
	for s, x := range c {
		if y, _ := strconv.ParseUint(want[s], 2, 32); uint64(x) != y {
			t.Errorf("Codes(%v): symbol %d has %b, want %s", lengths, s, x, want[s])
		}
	}
}

// refused asks that all calls refuse lengths.
func refused(t *testing.T, lengths []int) {
	t.Helper()
	if c, e := huff.Codes(lengths); e != api.ErrCode || len(c) != 0 {
		t.Errorf("Codes(%v): %v, %v", lengths, c, e)
	}
	if u, e := huff.New(lengths); e != api.ErrCode || u != nil {
		t.Errorf("New(%v): %v, %v", lengths, u, e)
	}
	if huff.Complete(lengths) {
		t.Errorf("Complete(%v)", lengths)
	}
}

func TestCodesOfExamples(t *testing.T) { // P4.1, and the chapter's example
	codesAre(t, []int{2, 1, 3, 3}, []string{"10", "0", "110", "111"})
	codesAre(t, []int{3, 3, 3, 3, 3, 2, 4, 4}, []string{"010", "011", "100", "101", "110", "00", "1110", "1111"})
	codesAre(t, []int{0, 5, 0, 1, 5, 0}, []string{"", "10000", "", "0", "10001", ""})
	codesAre(t, []int{0}, []string{""})
	codesAre(t, []int{1}, []string{"0"})
	codesAre(t, []int{0, 1}, []string{"", "0"})
	codesAre(t, []int{15}, []string{"000000000000000"})
	codesAre(t, []int{15, 1, 15}, []string{"100000000000000", "0", "100000000000001"})
	c, e := huff.Codes(stairs(15))
	for s, x := range c {
		if e != api.OK || x != 1<<min(s+1, 15)-2+uint32(s/15) {
			t.Errorf("of 1 to 15, symbol %d: %b, %v", s, x, e)
		}
	}
}

func TestCodesAgainstTheWords(t *testing.T) { // P4.1
	for _, l := range several() {
		if may, _ := mayBe(l); !may {
			t.Fatal("a list that may not be", l)
		}
		codesAre(t, l, words(l))
	}
}

func TestAllShortLists(t *testing.T) { // P4.1, P4.2: which lengths may be, their codes, and whether they are complete
	for n := range 5 {
		for _, l := range lists(n, 4) {
			may, complete := mayBe(l)
			if !may {
				refused(t, l)
				continue
			}
			codesAre(t, l, words(l))
			if huff.Complete(l) != complete {
				t.Errorf("Complete(%v): %v", l, !complete)
			}
			if !slices.Equal(table(t, l...).Lengths(), l) {
				t.Errorf("Lengths of %v", l)
			}
		}
	}
}

func TestLengthsThatMayNotBe(t *testing.T) { // P4.1, P4.2: no lengths, too many, too long, too short
	refused(t, nil)
	refused(t, []int{})
	for _, n := range []int{321, 322, 400, 1000, 70000} {
		refused(t, same(n, 0))
		refused(t, same(n, 15))
	}
	refused(t, append([]int{1, 1}, same(319, 0)...))
	for _, x := range []int{16, 17, 31, 32, 33, 63, 64, 65, 1 << 31, math.MaxInt, -1, -2, -15, -16, -64, math.MinInt} {
		refused(t, []int{x})
		refused(t, []int{x, 0})
		refused(t, []int{0, x})
		refused(t, []int{1, x, 2})
		refused(t, append(same(319, 0), x))
	}
}

func TestTooManyCodes(t *testing.T) { // P4.1, P4.2: by as little as may be, and by much
	refused(t, []int{1, 1, 1})
	refused(t, []int{1, 1, 15})
	refused(t, []int{2, 2, 2, 1})
	refused(t, append(stairs(15), 15))
	refused(t, append([]int{15}, stairs(15)...))
	refused(t, same(257, 8))
	refused(t, append(same(256, 8), 15))
	refused(t, same(320, 1))
	refused(t, same(320, 8))
	refused(t, append(same(192, 8), append(same(127, 9), 8)...))
	for seed := range uint64(60) {
		rnd := rand.New(rand.NewPCG(seed, 5))
		l := complete(rnd, 2+rnd.IntN(200))
		i := rnd.IntN(len(l))
		for l[i] == 1 {
			i = rnd.IntN(len(l))
		}
		if l[i] == 0 {
			l[i] = 15
		} else {
			l[i]--
		}
		refused(t, l)
	}
}

func TestComplete(t *testing.T) { // P4.1
	for _, l := range [][]int{{1, 1}, {2, 1, 3, 3}, {0, 1, 0, 1}, {2, 2, 2, 2}, stairs(15), same(256, 8), append(same(192, 8), same(128, 9)...), append(same(64, 0), same(256, 8)...)} {
		if !huff.Complete(l) {
			t.Errorf("%v leave no room", l)
		}
	}
	for _, l := range [][]int{{0}, {1}, {15}, {0, 1}, {1, 2}, {2, 2, 2}, stairs(15)[:15], same(255, 8), same(320, 0), same(320, 9), {1, 1, 1}, {1, 1, 16}, {1, 1, -1}, nil, append([]int{1, 1}, same(319, 0)...)} {
		if huff.Complete(l) {
			t.Errorf("%v are not complete", l)
		}
	}
	if !huff.Complete(append([]int{1, 1}, same(318, 0)...)) {
		t.Error("320 lengths")
	}
	for _, l := range several() {
		if _, want := mayBe(l); huff.Complete(l) != want {
			t.Errorf("Complete(%v): %v", l, !want)
		}
	}
}

func TestListsAreNeitherChangedNorKept(t *testing.T) { // P4.1, P4.2 by rule R3
	room := []int{2, 1, 3, 3, 9, 9}
	l := room[:4]
	c, _ := huff.Codes(l)
	d, _ := huff.Codes(l)
	u := table(t, l...)
	v, _ := huff.New(l)
	huff.Complete(l)
	if !slices.Equal(room, []int{2, 1, 3, 3, 9, 9}) {
		t.Error(room)
	}
	clear(room)
	clear(c[:cap(c)])
	if !slices.Equal(d, []uint32{2, 0, 6, 7}) {
		t.Error(d)
	}
	for _, x := range []*huff.Table{u, v} {
		told := x.Lengths()
		clear(told[:cap(told)])
		if !slices.Equal(x.Lengths(), []int{2, 1, 3, 3}) {
			t.Error(x.Lengths())
		}
		gets(t, x, reader("110", true), 2, api.OK, 3)
	}
}

func TestGetOfExamples(t *testing.T) { // P4.2, and the chapter's example
	u := table(t, 2, 1, 3, 3)
	for _, high := range ends {
		r := reader("10"+"0"+"110"+"111"+"0"+"0"+"10", high)
		for _, x := range []struct{ symbol, took int }{{0, 2}, {1, 1}, {2, 3}, {3, 3}, {1, 1}, {1, 1}, {0, 2}} {
			gets(t, u, r, x.symbol, api.OK, x.took)
		}
		gets(t, u, r, 0, api.ErrCut, 0)
		gets(t, u, r, 0, api.ErrCut, 0)
	}
}

func TestGetOfASingleCode(t *testing.T) { // P4.2
	u := table(t, 0, 1)
	for _, high := range ends {
		r := reader("0010", high)
		gets(t, u, r, 1, api.OK, 1)
		gets(t, u, r, 1, api.OK, 1)
		gets(t, u, r, 0, api.ErrCode, 1)
		gets(t, u, r, 1, api.OK, 1)
		gets(t, u, r, 0, api.ErrCut, 0)
	}
	v := table(t, 0, 0, 3)
	gets(t, v, reader("000", true), 2, api.OK, 3)
	gets(t, v, reader("001", true), 0, api.ErrCode, 3)
}

func TestGetWithoutCodes(t *testing.T) { // P4.2: no bit is taken, be there some or none
	for _, u := range []*huff.Table{table(t, 0), table(t, 0, 0, 0), table(t, same(320, 0)...)} {
		for _, high := range ends {
			for _, x := range []string{"", "0", "1", "10110100"} {
				r := reader(x, high)
				gets(t, u, r, 0, api.ErrCode, 0)
				gets(t, u, r, 0, api.ErrCode, 0)
			}
		}
	}
}

func TestGetWhereBitsEnd(t *testing.T) { // P4.2: in the middle of a code; what was taken stays taken
	u := table(t, stairs(15)...)
	for n := range 15 {
		for _, high := range ends {
			r := reader(strings.Repeat("1", n), high)
			gets(t, u, r, 0, api.ErrCut, n)
			gets(t, u, r, 0, api.ErrCut, 0)
		}
	}
	gets(t, u, reader(strings.Repeat("1", 15), true), 15, api.OK, 15)
	gets(t, table(t, 15), reader(strings.Repeat("0", 14), true), 0, api.ErrCut, 14)
	gets(t, table(t, 1), reader("", true), 0, api.ErrCut, 0)
	gets(t, table(t, 1), bits.Read(nil, true), 0, api.ErrCut, 0)
}

func TestGetOfBitsThatAreNoCode(t *testing.T) { // P4.2: so many as the longest code has are taken, though fewer tell it
	u := table(t, 2, 0, 4)
	for _, x := range []struct {
		bits   string
		symbol int
		e      api.Errno
		took   int
	}{
		{"00", 0, api.OK, 2}, {"0100", 2, api.OK, 4}, {"0101", 0, api.ErrCode, 4}, {"1000", 0, api.ErrCode, 4}, {"11111111", 0, api.ErrCode, 4},
		{"1", 0, api.ErrCut, 1}, {"11", 0, api.ErrCut, 2}, {"111", 0, api.ErrCut, 3}, {"1111", 0, api.ErrCode, 4}, {"0111", 0, api.ErrCode, 4}, {"011", 0, api.ErrCut, 3},
	} {
		for _, high := range ends {
			gets(t, u, reader(x.bits, high), x.symbol, x.e, x.took)
		}
	}
	// It goes on behind them.
	r := reader("1111"+"00"+"0101"+"0100", true)
	gets(t, u, r, 0, api.ErrCode, 4)
	gets(t, u, r, 0, api.OK, 2)
	gets(t, u, r, 0, api.ErrCode, 4)
	gets(t, u, r, 2, api.OK, 4)
	gets(t, table(t, 15), reader(strings.Repeat("1", 16), false), 0, api.ErrCode, 15)
	gets(t, table(t, 1, 15), reader("1"+strings.Repeat("0", 14), false), 1, api.OK, 15)
	gets(t, table(t, 1, 15), reader("1"+strings.Repeat("0", 13)+"1", false), 0, api.ErrCode, 15)
}

func TestGetAgainstTheWords(t *testing.T) { // P4.2: short lists, and all bits
	for n := 1; n < 5; n++ {
		for _, l := range lists(n, 3) {
			if may, _ := mayBe(l); !may {
				continue
			}
			u, codes := table(t, l...), words(l)
			for k := range 5 {
				for x := range 1 << k {
					getsAll(t, u, codes, fmt.Sprintf("%0*b", k, x)[:k])
				}
			}
		}
	}
}

func TestGetOfManyLists(t *testing.T) { // P4.2: each code, each code cut, and bits as they come
	for i, l := range several() {
		u, codes := table(t, l...), words(l)
		rnd := rand.New(rand.NewPCG(uint64(i), 6))
		for _, c := range codes {
			getsAll(t, u, codes, c)
			getsAll(t, u, codes, c[:max(len(c)-1, 0)])
		}
		for range 200 {
			n := rnd.IntN(20)
			getsAll(t, u, codes, fmt.Sprintf("%0*b", n, rnd.IntN(1<<n))[:n])
		}
	}
}

func TestPut(t *testing.T) { // P4.2: highest bit first, from both ends
	for _, high := range ends {
		u, w := table(t, 2, 1, 3, 3), bits.New(high)
		for _, s := range []int{3, 0, 1, 2, 1} {
			if e := u.Put(w, s); e != api.OK {
				t.Fatal(s, e)
			}
		}
		if got := text(w, high); got != "1111001100" {
			t.Error(got)
		}
	}
	for _, l := range several() {
		u, codes := table(t, l...), words(l)
		for _, high := range ends {
			w, all := bits.New(high), "11"
			w.Put(3, 2)
			for s, c := range codes {
				want := api.OK
				if c == "" {
					want = api.ErrArg
				}
				if e := u.Put(w, s); e != want {
					t.Errorf("%v: Put(%d): %v", l, s, e)
				}
				all += c
			}
			if got := text(w, high); got != all {
				t.Errorf("%v: %s, want %s", l, got, all)
			}
		}
	}
}

func TestPutOfSymbolsWithoutCode(t *testing.T) { // P4.2: nothing is put
	for _, x := range []struct {
		lengths []int
		symbols []int
	}{
		{[]int{0}, []int{0, 1, -1}}, {[]int{0, 1}, []int{0, 2, 3}}, {[]int{1, 0, 1}, []int{1, 3, -1}}, {[]int{2, 1, 3, 3}, []int{4, 5, 319, 320, 321, -1, -2, math.MinInt, math.MaxInt, 1 << 32}},
		{same(320, 0), []int{0, 7, 319, 320}}, {same(320, 9), []int{-1, 320, 321, 1000}},
	} {
		for _, high := range ends {
			u, w := table(t, x.lengths...), bits.New(high)
			w.Put(1, 1)
			for _, s := range x.symbols {
				if e := u.Put(w, s); e != api.ErrArg || w.Len() != 1 {
					t.Errorf("%v: Put(%d): %v, %d bits", x.lengths, s, e, w.Len())
				}
			}
		}
	}
}

func TestTableWithAReaderOrWriterThatIsNone(t *testing.T) { // P4.2: as those answer
	u := table(t, 2, 1, 3, 3)
	for _, r := range []*bits.Reader{nil, new(bits.Reader)} {
		if s, e := u.Get(r); s != 0 || e != api.ErrNil {
			t.Error(s, e)
		}
	}
	for _, w := range []*bits.Writer{nil, new(bits.Writer)} {
		if e := u.Put(w, 0); e != api.ErrNil {
			t.Error(e)
		}
		if e := u.Put(w, 4); e != api.ErrArg {
			t.Error(e)
		}
	}
}

func TestTablesAreApart(t *testing.T) { // P4.2 by rule R4: one that was assigned to another one, too
	u, v := table(t, 2, 1, 3, 3), table(t, 1, 1)
	x := *u
	*u = *v
	gets(t, &x, reader("110", true), 2, api.OK, 3)
	gets(t, u, reader("110", true), 1, api.OK, 1)
	gets(t, v, reader("110", true), 1, api.OK, 1)
	if !slices.Equal(x.Lengths(), []int{2, 1, 3, 3}) || !slices.Equal(u.Lengths(), []int{1, 1}) {
		t.Error(x.Lengths(), u.Lengths())
	}
	// A Get that was refused has changed nothing.
	for range 3 {
		gets(t, v, reader("", true), 0, api.ErrCut, 0)
		gets(t, v, reader("1", true), 1, api.OK, 1)
	}
}

func TestTablesThatAreNone(t *testing.T) { // P4.4
	for _, u := range []*huff.Table{nil, new(huff.Table), {}} {
		for range 2 {
			r := reader("0110", true)
			if s, e := u.Get(r); s != 0 || e != api.ErrNil || r.Left() != 4 {
				t.Error(s, e, r.Left())
			}
			if s, e := u.Get(nil); s != 0 || e != api.ErrNil {
				t.Error(s, e)
			}
			if s, e := u.Get(bits.Read(nil, true)); s != 0 || e != api.ErrNil {
				t.Error(s, e)
			}
			w := bits.New(true)
			for _, s := range []int{0, 1, -1, 320} {
				if e := u.Put(w, s); e != api.ErrNil || w.Len() != 0 {
					t.Error(s, e, w.Len())
				}
				if e := u.Put(nil, s); e != api.ErrNil {
					t.Error(s, e)
				}
			}
			if l := u.Lengths(); len(l) != 0 {
				t.Error(l)
			}
		}
	}
	u, _ := huff.New([]int{1, 1, 1})
	if _, e := u.Get(reader("0", true)); e != api.ErrNil {
		t.Error(e)
	}
}

func TestNoCodeBeginsAnother(t *testing.T) { // P4.5
	for _, l := range several() {
		c, _ := huff.Codes(l)
		for a, x := range l {
			for b, y := range l {
				if a != b && x > 0 && y >= x && c[b]>>(y-x) == c[a] {
					t.Fatalf("%v: the code of %d begins that of %d", l, a, b)
				}
			}
		}
	}
}

func TestWhatIsPutIsGot(t *testing.T) { // P4.5
	for i, l := range several() {
		rnd := rand.New(rand.NewPCG(uint64(i), 7))
		u, high := table(t, l...), i%2 == 0
		w := bits.New(high)
		var symbols []int
		for range 500 {
			if s := rnd.IntN(len(l)); l[s] > 0 {
				symbols = append(symbols, s)
				u.Put(w, s)
			}
		}
		r := bits.Read(w.Bytes(), high)
		for _, s := range symbols {
			gets(t, table(t, u.Lengths()...), r, s, api.OK, l[s])
		}
		if r.At() != w.Len() {
			t.Errorf("%v: %d bits of %d", l, r.At(), w.Len())
		}
	}
}

package value_test

import (
	"bytes"
	"encoding/binary"
	"fmt"
	"math"
	"math/rand/v2"
	"reflect"
	"slices"
	"strings"
	"testing"

	"catchword/api"
	"catchword/value"
)

// Values by their Kinds, as tests write them.
func null() api.Value                      { return api.Value{} }
func truth(n int) api.Value                { return api.Value{Kind: api.Bool, N: n} }
func whole(n int) api.Value                { return api.Value{Kind: api.Int, N: n} }
func real(n int) api.Value                 { return api.Value{Kind: api.Real, N: n} }
func text(s string) api.Value              { return api.Value{Kind: api.String, S: s} }
func name(s string) api.Value              { return api.Value{Kind: api.Name, S: s} }
func array(l ...api.Value) api.Value       { return api.Value{Kind: api.Array, L: l} }
func dict(l ...api.Value) api.Value        { return api.Value{Kind: api.Dict, L: l} }
func ref(n int) api.Value                  { return api.Value{Kind: api.Ref, N: n} }
func with(v api.Value, n int) api.Value    { v.N = n; return v }
func said(v api.Value, s string) api.Value { v.S = s; return v }
func holding(v api.Value, l ...api.Value) api.Value {
	v.L = l
	return v
}

// nested puts a value into so many others, of the Kinds in turn: Dicts have it behind a name.
func nested(v api.Value, n int, kinds ...int) api.Value {
	for i := range n {
		if kinds[i%len(kinds)] == api.Dict {
			v = dict(name("K"), v)
		} else {
			v = holding(api.Value{Kind: kinds[i%len(kinds)]}, v)
		}
	}
	return v
}

// equal tells whether two values are the same in each field, by the library.
func equal(a, b api.Value) bool { return reflect.DeepEqual(bare(a), bare(b)) }

// bare is a value anew, in which no list and an empty one are one.
func bare(v api.Value) api.Value {
	var l []api.Value
	for _, x := range v.L {
		l = append(l, bare(x))
	}
	return api.Value{Kind: v.Kind, N: v.N, S: v.S, L: l}
}

// line has a value, and all that its lists have, in the order in which they stand, each with its depth in the others.
type line struct {
	v    api.Value
	deep int
}

func lines(v api.Value) []line {
	var out []line
	for stack := []line{{v, 1}}; len(stack) > 0; {
		x := stack[len(stack)-1]
		stack = stack[:len(stack)-1]
		out = append(out, x)
		for i := len(x.v.L) - 1; i >= 0; i-- {
			stack = append(stack, line{x.v.L[i], x.deep + 1})
		}
	}
	return out
}

// depthPlainly is Depth by the chapter's words: layers are taken off a value as long as Arrays and Dicts have something.
func depthPlainly(v api.Value) int {
	n := 0
	for layer := []api.Value{v}; len(layer) > 0; n++ {
		var next []api.Value
		for _, x := range layer {
			if x.Kind == api.Array || x.Kind == api.Dict {
				next = append(next, x.L...)
			}
		}
		layer = next
	}
	return n
}

// checkPlainly is Check by the chapter's words.
func checkPlainly(v api.Value) api.Errno {
	if depthPlainly(v) > 64 {
		return api.ErrDeep
	}
	for _, x := range lines(v) {
		if e := alonePlainly(x.v); e != api.OK {
			return e
		}
	}
	return api.OK
}

func alonePlainly(v api.Value) api.Errno {
	var keys []string
	for i, x := range v.L {
		if i%2 == 0 && v.Kind == api.Dict {
			if x.Kind != api.Name {
				return api.ErrArg
			}
			keys = append(keys, x.S)
		}
	}
	ranges := map[int][2]int{api.Null: {}, api.Bool: {0, 1}, api.Int: {-math.MaxInt32, math.MaxInt32}, api.Real: {-math.MaxInt32 * 1000000, math.MaxInt32 * 1000000}, api.String: {}, api.Name: {}, api.Array: {}, api.Dict: {}, api.Ref: {1, 4096}}
	r, known := ranges[v.Kind]
	switch {
	case v.Kind == api.Name && (len(v.S) > 127 || strings.IndexByte(v.S, 0) >= 0):
		return api.ErrName
	case !known || v.N < r[0] || v.N > r[1]:
		return api.ErrArg
	case v.S != "" && v.Kind != api.String && v.Kind != api.Name:
		return api.ErrArg
	case len(v.L) > 0 && v.Kind != api.Array && v.Kind != api.Dict:
		return api.ErrArg
	case v.Kind == api.Dict && len(v.L)%2 == 1:
		return api.ErrArg
	case !slices.Equal(keys, slices.Compact(slices.Sorted(slices.Values(keys)))):
		return api.ErrKey
	}
	return api.OK
}

// coded is a value as bytes that stand as values do: of each text a 0 has a 1 behind it, and its end is two bytes 0; what a list has begins with a 1, and its end is a 0.
func coded(v api.Value) []byte {
	b := binary.BigEndian.AppendUint64(nil, uint64(v.Kind)+1<<63)
	b = binary.BigEndian.AppendUint64(b, uint64(v.N)+1<<63)
	b = append(b, strings.ReplaceAll(v.S, "\x00", "\x00\x01")...)
	b = append(b, 0, 0)
	for _, x := range v.L {
		b = append(append(b, 1), coded(x)...)
	}
	return append(b, 0)
}

// comparePlainly is Compare by the chapter's words.
func comparePlainly(a, b api.Value) int { return bytes.Compare(coded(a), coded(b)) }

// nameAt is where the first name stands, in a name's place, that has that S: -1, if none does.
func nameAt(v api.Value, key string) int {
	for i, x := range v.L {
		if v.Kind == api.Dict && i%2 == 0 && x.Kind == api.Name && x.S == key {
			return i
		}
	}
	return -1
}

// getPlainly, putPlainly and dropPlainly are Get, Put and Drop by the chapter's words.
func getPlainly(v api.Value, key string) (api.Value, bool) {
	i := nameAt(v, key)
	if i < 0 {
		return api.Value{}, false
	}
	return append(slices.Clone(v.L), api.Value{})[i+1], true
}

func putPlainly(v api.Value, key string, x api.Value) api.Value {
	if v.Kind != api.Dict {
		return v
	}
	l := slices.Clone(v.L)
	if i := nameAt(v, key); i >= 0 {
		if i+1 == len(l) {
			l = append(l, x)
		}
		l[i+1] = x
		return holding(v, l...)
	}
	i := 0
	for i < len(l) && (i%2 == 1 || l[i].Kind != api.Name || l[i].S <= key) {
		i++
	}
	return holding(v, slices.Insert(l, i, name(key), x)...)
}

func dropPlainly(v api.Value, key string) api.Value {
	i := nameAt(v, key)
	if i < 0 {
		return v
	}
	l := slices.Delete(slices.Clone(v.L), i, i+1)
	if i < len(l) {
		l = slices.Delete(l, i, i+1)
	}
	return holding(v, l...)
}

// refsPlainly is Refs by the chapter's words.
func refsPlainly(v api.Value) []int {
	var out []int
	for _, x := range lines(v) {
		if x.v.Kind == api.Ref && !slices.Contains(out, x.v.N) {
			out = append(out, x.v.N)
		}
	}
	return out
}

// mapPlainly is Map by the chapter's words.
func mapPlainly(v api.Value, to []int) api.Value {
	switch {
	case v.Kind == api.Ref && 1 <= v.N && v.N <= len(to):
		return ref(to[v.N-1])
	case v.Kind == api.Ref:
		return null()
	}
	var l []api.Value
	for _, x := range v.L {
		l = append(l, mapPlainly(x, to))
	}
	return holding(v, l...)
}

// chance makes values by chance: of few names and numbers, so that many are alike.
type chance struct{ *rand.Rand }

func (c chance) text() string {
	l := []string{"", "A", "AB", "B", "a", "\x00", "A\x00", "\x7f", "\x80", "\xff", "Kids", strings.Repeat("n", 127), strings.Repeat("n", 128)}
	return l[c.IntN(len(l))]
}

// key is a name, which is seldom one that may not be.
func (c chance) key() string {
	if c.IntN(20) == 0 {
		return c.text()
	}
	return []string{"", "A", "AB", "B", "a", "\xff"}[c.IntN(6)]
}

// right is a value that may be, if it is not too deep.
func (c chance) right(deep int) api.Value {
	n := c.IntN(9)
	if deep == 0 {
		n = c.IntN(6)
	}
	switch n {
	case api.Bool:
		return truth(c.IntN(2))
	case api.Int:
		return whole(c.IntN(5) - 2)
	case api.Real:
		return real(c.IntN(5) - 2)
	case api.String:
		return text(c.text())
	case api.Name:
		return name([]string{"", "A", "AB", "Kids"}[c.IntN(4)])
	case api.Array:
		var l []api.Value
		for range c.IntN(4) {
			l = append(l, c.right(deep-1))
		}
		return array(l...)
	case api.Dict:
		return c.rightDict(deep)
	case api.Ref:
		return ref(1 + c.IntN(5))
	}
	return null()
}

// rightDict is a Dict that may be, if it is not too deep.
func (c chance) rightDict(deep int) api.Value {
	var l []api.Value
	for _, s := range []string{"", "A", "AB", "B", "a", "\xff"} {
		if c.IntN(2) == 0 {
			l = append(l, name(s), c.right(deep-1))
		}
	}
	return dict(l...)
}

// any is a value of any fields, of which many may be.
func (c chance) any(deep int) api.Value {
	switch c.IntN(4) {
	case 0:
		return c.right(deep)
	case 1:
		if deep > 0 {
			return c.dict()
		}
	}
	numbers := []int{0, 0, 0, 1, 1, 2, -1, 5, 4096, 4097, math.MaxInt32, math.MaxInt32 + 1, math.MaxInt, math.MinInt}
	v := api.Value{Kind: c.IntN(10), N: numbers[c.IntN(len(numbers))]}
	if c.IntN(20) == 0 {
		v.Kind = numbers[c.IntN(len(numbers))]
	}
	if c.IntN(3) == 0 {
		v.S = c.text()
	}
	if deep > 0 && c.IntN(3) > 0 {
		for range c.IntN(6) {
			v.L = append(v.L, c.any(deep-1))
		}
	}
	return v
}

// dict is a Dict of names, most of which may be, and values, most of which may be, in any order.
func (c chance) dict() api.Value {
	var l []api.Value
	for i := range c.IntN(8) {
		switch {
		case c.IntN(20) == 0:
			l = append(l, c.any(2))
		case i%2 == 0:
			l = append(l, name(c.key()))
		default:
			l = append(l, c.right(2))
		}
	}
	return dict(l...)
}

// some are values of any fields, edges among them.
func some() []api.Value {
	out := []api.Value{
		null(), with(null(), 1), truth(0), truth(1), truth(2), truth(-1), whole(0), whole(-1), whole(1), whole(math.MinInt), whole(math.MaxInt), real(0), real(-1), real(1),
		text(""), text("a"), text("ab"), text("b"), text("\x00"), text("a\x00"), text("\x80"), text("\x7f"), text("\xff"), name(""), name("a"), name("ab"), name("\xff"),
		array(), array(null()), array(null(), null()), array(whole(1)), array(whole(1), null()), array(whole(2)), array(array()), array(array(), null()), array(array(null())), array(text("a")), array(text("ab")),
		dict(), dict(name("A")), dict(name("A"), null()), dict(name("A"), whole(1)), dict(name("B"), null()), dict(name("A"), null(), name("B"), null()),
		ref(0), ref(1), ref(4096), ref(-1), api.Value{Kind: -1}, api.Value{Kind: 9}, api.Value{Kind: math.MinInt}, api.Value{Kind: math.MaxInt},
		holding(whole(0), ref(1)), holding(null(), null()), holding(null(), holding(null(), null())), holding(ref(1), ref(2)), said(whole(0), "a"), said(array(), "a"), with(array(), 1), with(name("a"), 1), with(dict(), -1),
	}
	return out
}

// few ends a test that has told enough: where one answer is wrong, thousands may be.
func few(t *testing.T) {
	t.Helper()
	if t.Failed() {
		t.FailNow()
	}
}

// brief is the beginning of a value as Go writes it.
func brief(v api.Value) string {
	s := fmt.Sprintf("%+v", v)
	return s[:min(len(s), 300)]
}

// checks asks for Check's answer.
func checks(t *testing.T, v api.Value, e api.Errno) {
	t.Helper()
	if got := value.Check(v); got != e {
		t.Errorf("Check(%s): %v, want %v", brief(v), got, e)
	}
}

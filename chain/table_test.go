package chain_test

import (
	"math"
	"slices"
	"testing"

	"catchword/api"
	"catchword/chain"
	"catchword/xref"
)

// table is one, by its root and its places.
func table(root int, places ...int) chain.Table { return chain.Table{Places: places, Root: root} }

func TestOf(t *testing.T) { // P17.3: the place of the first entry that any section has
	l := []xref.Section{
		section(trailer(3, 7), group(2, used(20), free(5)), group(6, used(60))),
		section(dict(), group(0, free(0), used(1), used(21), used(30)), group(5, later(50, 1))),
		section(trailer(9, 4097), group(1, used(11), used(22), used(31), used(40), used(51), used(61), used(70))),
	}
	tells(t, l, table(3, 1, 20, -1, 40, -1, 60), api.OK)
	tells(t, l[:1], table(3, -1, 20, -1, -1, -1, 60), api.OK)
	tells(t, l[1:], table(0), api.ErrXref) // the first trailer says nothing
	x, e := chain.Of(l[2:])
	if e != api.OK || x.Root != 9 || len(x.Places) != 4096 || !slices.Equal(x.Places[:8], []int{11, 22, 31, 40, 51, 61, 70, -1}) || slices.Max(x.Places[7:]) != -1 {
		t.Error(brief(x), e)
	}
}

func TestOfFirstEntries(t *testing.T) { // P17.3: one that is not Used, or not of generation 0, is none, though others follow
	behind := []api.Group{group(1, used(99)), group(0, used(98), used(97))}
	for at, e := range map[int]api.Entry{17: used(17), 0: used(0), most: used(most), -1: free(17)} {
		one := section(trailer(1, 2), group(1, e))
		tells(t, []xref.Section{one}, table(1, at), api.OK)
		tells(t, []xref.Section{section(trailer(1, 2), append([]api.Group{group(1, e)}, behind...)...)}, table(1, at), api.OK)
		tells(t, []xref.Section{one, section(dict(), behind...)}, table(1, at), api.OK)
		tells(t, []xref.Section{section(trailer(1, 2)), one, section(dict(), behind...)}, table(1, at), api.OK)
		tells(t, []xref.Section{section(trailer(1, 2), group(2, used(5)), group(0, used(5))), one, one}, table(1, at), api.OK)
	}
	for _, gen := range []int{1, 2, 65535, -1, math.MinInt, math.MaxInt} {
		for _, e := range []api.Entry{later(17, gen), {At: 17, Gen: gen}} {
			tells(t, []xref.Section{section(trailer(1, 2), group(1, e), group(1, used(9))), section(dict(), behind...)}, table(1, -1), api.OK)
		}
	}
}

func TestOfSizes(t *testing.T) { // P17.3: an Int from 1 to 4097, of the first trailer
	g := group(0, free(0), used(11), used(22), used(33))
	for _, n := range []int{1, 2, 3, 4, 5, 100, 4095, 4096, 4097} {
		want := table(1, []int{11, 22, 33}[:min(n-1, 3)]...)
		for len(want.Places) < n-1 {
			want.Places = append(want.Places, -1)
		}
		tells(t, []xref.Section{section(trailer(1, n), g)}, want, api.OK)
		tells(t, []xref.Section{section(trailer(1, n)), section(trailer(2, 3), g)}, want, api.OK)
		tells(t, []xref.Section{section(trailer(1, n)), section(null(), g)}, want, api.OK)
	}
	last := section(trailer(1, 4097), group(4095, used(5), used(6), used(7)))
	if x, e := chain.Of([]xref.Section{last}); e != api.OK || !slices.Equal(x.Places[4093:], []int{-1, 5, 6}) {
		t.Error(brief(x), e)
	}
	root := []api.Value{name("Root"), ref(1)}
	for _, n := range append([]int{0, 4098, 5000, most}, farOff...) {
		tells(t, []xref.Section{section(trailer(1, n), g)}, table(0), api.ErrXref)
	}
	for _, v := range []api.Value{null(), millionths(2000000), text("2"), name("2"), array(whole(2)), dict(name("Size"), whole(2)), ref(2), {Kind: api.Bool, N: 1}, {Kind: 9, N: 2}, {Kind: -1, N: 2}} {
		tells(t, []xref.Section{section(dict(append(slices.Clone(root), name("Size"), v)...), g), section(trailer(1, 4))}, table(0), api.ErrXref)
	}
	for _, v := range []api.Value{null(), whole(2), dict(), array(trailer(1, 2).L...), dict(root...), dict(append(slices.Clone(root), name("size"), whole(2))...), dict(append(slices.Clone(root), name("Size"))...), dict(append(slices.Clone(root), name("A"), dict(name("Size"), whole(2)))...)} {
		tells(t, []xref.Section{section(v, g), section(trailer(1, 4))}, table(0), api.ErrXref)
	}
}

func TestOfRoots(t *testing.T) { // P17.3: a Ref, of whatever number, of the first trailer
	for _, n := range append([]int{1, 2, 4096, 4097, 0}, farOff...) {
		tells(t, []xref.Section{section(trailer(n, 2)), section(trailer(7, 2))}, table(n, -1), api.OK)
	}
	size := []api.Value{name("Size"), whole(2)}
	for _, v := range []api.Value{null(), whole(1), millionths(1), text("1 0 R"), name("Root"), array(ref(1)), dict(name("Root"), ref(1)), {Kind: 9, N: 1}} {
		tells(t, []xref.Section{section(dict(append([]api.Value{name("Root"), v}, size...)...)), section(trailer(1, 2))}, table(0), api.ErrRoot)
	}
	for _, v := range []api.Value{dict(size...), dict(append([]api.Value{name("root"), ref(1)}, size...)...), dict(append(slices.Clone(size), name("Root"))...)} {
		tells(t, []xref.Section{section(v, group(0, used(5))), section(trailer(1, 2))}, table(0), api.ErrRoot)
	}
}

func TestOfErrorsInTheirOrder(t *testing.T) { // P17.3: ErrXref ahead of ErrRoot
	tells(t, nil, table(0), api.ErrXref)
	tells(t, []xref.Section{}, table(0), api.ErrXref)
	tells(t, []xref.Section{{}}, table(0), api.ErrXref)
	for _, n := range []int{-1, 0, 4098} {
		tells(t, []xref.Section{section(dict(name("Root"), whole(1), name("Size"), whole(n)))}, table(0), api.ErrXref)
		tells(t, []xref.Section{section(dict(name("Size"), whole(n)))}, table(0), api.ErrXref)
	}
}

func TestOfSectionsThatMayNotBe(t *testing.T) { // P17.3: what is not said to be refused is answered
	wrong := section(trailer(1, 6), group(-2, used(90), used(91), used(92), used(-7), used(math.MinInt), used(math.MaxInt)), group(math.MaxInt, used(5)), group(math.MinInt, used(6)), group(4097, used(8)))
	tells(t, []xref.Section{wrong, section(null(), group(4, used(40)))}, table(1, -7, math.MinInt, math.MaxInt, 40, -1), api.OK)
	twice := dict(name("Size"), whole(3), name("Size"), whole(2), name("Root"), ref(4), name("Root"), whole(5)) // the first ones hold
	tells(t, []xref.Section{section(twice)}, table(4, -1, -1), api.OK)
	deep := ref(1)
	for range 70000 {
		deep = array(deep)
	}
	tells(t, []xref.Section{section(dict(name("A"), deep, name("Root"), ref(1), name("Size"), whole(2)))}, table(1, -1), api.OK)
	var many []api.Group
	for i := range 200 {
		many = append(many, group(i%3+1, used(i)), group(i/50+1, used(i)))
	}
	tells(t, []xref.Section{section(trailer(1, 6), many...)}, table(1, 0, 1, 2, 150, -1), api.OK)
	var l []xref.Section
	for range 100 {
		l = append(l, section(trailer(2, 4), group(1, used(1))))
	}
	tells(t, append(l, section(null(), group(1, used(2), used(3)))), table(2, 1, 3, -1), api.OK)
}

func TestOfByChance(t *testing.T) { // P17.3
	c := newChance(1)
	seen := map[api.Errno]int{}
	for range 20000 {
		var l []xref.Section
		for range c.IntN(5) {
			l = append(l, c.section())
		}
		x, e := tableOf(l)
		tells(t, l, x, e)
		seen[e]++
		for n := -1; n <= len(x.Places)+1; n++ {
			finds(t, x, n, max(0, at(x, n)), at(x, n) >= 0)
		}
	}
	if min(seen[api.OK], seen[api.ErrXref], seen[api.ErrRoot]) < 500 {
		t.Error(seen)
	}
}

// at is an object's place by the chapter's words, or -1.
func at(x chain.Table, n int) int {
	for i, k := range x.Places {
		if i == n-1 {
			return k
		}
	}
	return -1
}

func TestFind(t *testing.T) { // P17.3
	x := table(7, 5, -1, 0, most, math.MinInt, math.MaxInt, -2, 9)
	for n, k := range map[int]int{1: 5, 3: 0, 4: most, 6: math.MaxInt, 8: 9} {
		finds(t, x, n, k, true)
	}
	for _, n := range append([]int{0, 2, 5, 7, 9, 10}, farOff...) {
		finds(t, x, n, 0, false)
	}
	for _, x := range []chain.Table{{}, table(1), {Places: []int{}, Root: 1}} {
		for n := range 3 {
			finds(t, x, n, 0, false)
		}
	}
	room := table(1, slices.Grow([]int{5}, 9)[:9]...)
	room.Places = room.Places[:1] // what is in its spare room is none of its places
	finds(t, room, 1, 5, true)
	finds(t, room, 2, 0, false)
}

func TestFindOfWhatIsLoaded(t *testing.T) { // P17.3, P17.4
	s := "xref 0 4 0000000000 65535 f 0000000000 00000 n 0000000001 00001 n 2147483647 00000 n trailer<</Size 5/Root 3 0 R>>"
	x, _, e := chain.Load(all(s + ends(0)).source(t))
	if e != api.OK || x.Root != 3 {
		t.Fatal(brief(x), e)
	}
	for n, k := range []int{-1, 0, -1, most, -1, -1} {
		finds(t, x, n, max(0, k), k >= 0)
	}
}

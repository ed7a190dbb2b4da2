package value_test

import (
	"math"
	"math/rand/v2"
	"slices"
	"testing"

	"catchword/api"
	"catchword/value"
)

// refers asks for Refs' answer.
func refers(t *testing.T, v api.Value, want ...int) {
	t.Helper()
	if l := value.Refs(v); !slices.Equal(l, want) {
		t.Errorf("Refs(%s): %v, want %v", brief(v), l, want)
	}
}

// turns asks for Map's answer.
func turns(t *testing.T, v api.Value, to []int, want api.Value) {
	t.Helper()
	if m := value.Map(v, to); !equal(m, want) {
		t.Errorf("Map(%s, %v): %s, want %s", brief(v), to, brief(m), brief(want))
	}
}

func TestRefs(t *testing.T) { // P11.3, and the chapter's example
	refers(t, array(ref(3), ref(1), ref(3)), 3, 1)
	refers(t, ref(7), 7)
	for _, v := range []api.Value{null(), truth(1), whole(7), real(7), text("1 0 R"), name("R"), array(), dict(), array(whole(3), text("R")), dict(name("A"), whole(3)), {Kind: 9, N: 3}, {Kind: -1, N: 3}} {
		refers(t, v)
		refers(t, array(v, ref(2), v), 2)
	}
	refers(t, dict(name("A"), ref(2), name("B"), ref(1)), 2, 1)
	refers(t, array(ref(5), array(ref(4), array(ref(5), ref(3)), ref(2)), ref(4), ref(1)), 5, 4, 3, 2, 1)
	refers(t, dict(name("A"), array(ref(9), dict(name("A"), ref(8), name("B"), array(ref(7))), ref(6)), name("B"), ref(5)), 9, 8, 7, 6, 5)
	refers(t, dict(ref(4), null(), name("A"), ref(3), ref(2), ref(1)), 4, 3, 2, 1) // in a name's place, too
	refers(t, dict(ref(2)), 2)
	refers(t, dict(array(ref(2)), ref(1)), 2, 1)
	refers(t, array(ref(math.MinInt), ref(-1), ref(0), ref(4097), ref(-1), ref(math.MaxInt)), math.MinInt, -1, 0, 4097, math.MaxInt) // of any number
	refers(t, array(whole(3), ref(3), real(3), ref(3)), 3)
	refers(t, array(whole(3), ref(2), ref(3)), 2, 3) // another Kind's N is none
	refers(t, said(with(array(ref(1)), 2), "R"), 1)
	refers(t, nested(ref(3), 1<<16, api.Array, api.Dict), 3)
}

func TestRefsInOtherKinds(t *testing.T) { // P11.3: all Refs are told, whatever has them
	for _, kind := range []int{math.MinInt, -1, api.Null, api.Bool, api.Int, api.Real, api.String, api.Name, 9, math.MaxInt} {
		v := api.Value{Kind: kind, N: 9, S: "S", L: []api.Value{ref(2), array(ref(1)), ref(2)}}
		refers(t, v, 2, 1)
		refers(t, dict(v, ref(3), name("A"), v), 2, 1, 3)
		turns(t, v, []int{8}, api.Value{Kind: kind, N: 9, S: "S", L: []api.Value{null(), array(ref(8)), null()}})
	}
	refers(t, holding(ref(3), ref(2), ref(3)), 3, 2)
}

func TestRefsOfMany(t *testing.T) { // P11.3, and R1
	var l []api.Value
	var want []int
	for i := range 1 << 17 {
		n := i * 40503 % (1 << 16)
		l = append(l, array(ref(n)))
		if i < 1<<16 {
			want = append(want, n)
		}
	}
	if got := value.Refs(array(l...)); !slices.Equal(got, want) {
		t.Error(len(got))
	}
}

func TestMap(t *testing.T) { // P11.3
	row := []int{7, 0, -5, math.MaxInt, math.MinInt, 4097, 1}
	for n := -3; n < 12; n++ {
		want := null()
		if 1 <= n && n <= len(row) {
			want = ref(row[n-1])
		}
		turns(t, ref(n), row, want)
		turns(t, ref(n), nil, null())
		turns(t, ref(n), []int{}, null())
		turns(t, array(null(), ref(n), whole(n)), row, array(null(), want, whole(n)))
		turns(t, dict(name("A"), array(dict(name("B"), ref(n)))), row, dict(name("A"), array(dict(name("B"), want))))
		turns(t, dict(ref(n), ref(n)), row, dict(want, want))
		turns(t, said(holding(ref(n), ref(1)), "a"), row, want)
	}
	for _, n := range []int{math.MinInt, math.MinInt + 1, -1 << 32, 1 << 32, 1<<32 + 1, math.MaxInt} {
		turns(t, ref(n), row, null())
	}
	turns(t, ref(3), []int{1, 2}, null())
	turns(t, ref(2), []int{1, 2}, ref(2))
	turns(t, array(ref(1), ref(2)), []int{2, 1}, array(ref(2), ref(1))) // each once, not again
	for _, v := range []api.Value{null(), truth(1), whole(1), real(1), text("1 0 R"), name("R"), array(), dict(), with(said(array(whole(1)), "a"), 1), dict(name("A"), whole(1)), {Kind: 9, N: 1}, {Kind: -1, N: 1, S: "a"}} {
		turns(t, v, row, v)
	}
	turns(t, nested(ref(1), 1<<16, api.Array, api.Dict), []int{4}, nested(ref(4), 1<<16, api.Array, api.Dict))
}

func TestRefsAndMapByChance(t *testing.T) { // P11.3
	c := chance{rand.New(rand.NewPCG(11, 9))}
	some := 0
	for range 100000 {
		v := c.any(4)
		want := refsPlainly(v)
		refers(t, v, want...)
		to := make([]int, c.IntN(7))
		for i := range to {
			to[i] = c.IntN(20) - 5
		}
		turns(t, v, to, mapPlainly(v, to))
		few(t)
		if len(want) > 1 {
			some++
		}
	}
	if some < 10000 {
		t.Error(some)
	}
}

func TestOnesOfEachKind(t *testing.T) { // P11.4: of what may be, and what may not
	for _, s := range []string{"", "A", "Type", "a\x00b", "\xff /", long(127).S, long(128).S, long(1000).S} {
		if v := value.NameOf(s); !equal(v, api.Value{Kind: api.Name, S: s}) {
			t.Errorf("NameOf(%q): %s", s, brief(v))
		}
	}
	for _, n := range []int{0, 1, -1, 7, 4096, 4097, math.MaxInt32, math.MaxInt32 + 1, math.MinInt32, math.MaxInt, math.MinInt} {
		if v := value.IntOf(n); !equal(v, api.Value{Kind: api.Int, N: n}) {
			t.Errorf("IntOf(%d): %s", n, brief(v))
		}
		if v := value.RefTo(n); !equal(v, api.Value{Kind: api.Ref, N: n}) {
			t.Errorf("RefTo(%d): %s", n, brief(v))
		}
	}
}

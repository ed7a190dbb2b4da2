package huff

import (
	"cmp"
	"slices"

	"catchword/api"
)

// above is the greatest count.
const above = 1<<31 - 1

// Lengths are counts'.
func Lengths(counts []int, most int) ([]int, api.Errno) {
	if most < 1 || most > longest || !mayCount(counts) {
		return nil, api.ErrArg
	}
	used := lesserFirst(counts)
	if len(used) > 1<<most {
		return nil, api.ErrArg
	}
	lengths := make([]int, len(counts))
	switch len(used) {
	case 0:
	case 1:
		lengths[used[0]] = 1
	default:
		share(lengths, levels(counts, used, most), used)
	}
	return lengths, api.OK
}

// mayCount tells whether there are as many counts as may be, and each may be.
func mayCount(counts []int) bool {
	for _, c := range counts {
		if c < 0 || c > above {
			return false
		}
	}
	return len(counts) >= 1 && len(counts) <= greatest
}

// lesserFirst are the symbols of counts above 0, those of lesser counts first.
func lesserFirst(counts []int) []int {
	var used []int
	for symbol, c := range counts {
		if c > 0 {
			used = append(used, symbol)
		}
	}
	slices.SortStableFunc(used, func(a, b int) int { return cmp.Compare(counts[a], counts[b]) })
	return used
}

// node is a symbol, or two nodes of the level below as one.
type node struct {
	weight int64
	pair   bool
}

// levels are the nodes of each depth, the deepest one first; in each all symbols, and the pairs of the level below, lesser weights first. A symbol that is taken from k levels has a code of k bits, so that the least weights, taken together, are the codes that take least room.
func levels(counts, used []int, most int) [][]node {
	symbols := make([]node, len(used))
	for i, symbol := range used {
		symbols[i].weight = int64(counts[symbol])
	}
	all := [][]node{symbols}
	for len(all) < most {
		all = append(all, merge(symbols, pairs(all[len(all)-1])))
	}
	return all
}

// pairs are the nodes of a level, two by two.
func pairs(level []node) []node {
	var out []node
	for i := 1; i < len(level); i += 2 {
		out = append(out, node{weight: level[i-1].weight + level[i].weight, pair: true})
	}
	return out
}

// merge is both lists as one, lesser weights first.
func merge(a, b []node) []node {
	out := make([]node, 0, len(a)+len(b))
	for len(a) > 0 && len(b) > 0 {
		from := &a
		if b[0].weight < a[0].weight {
			from = &b
		}
		out = append(out, (*from)[0])
		*from = (*from)[1:]
	}
	return slices.Concat(out, a, b)
}

// share gives symbols their lengths: of the highest level as many nodes are taken as make codes that leave no room, of each level below those that are in the pairs that were taken.
func share(lengths []int, all [][]node, used []int) {
	taken := 2*len(used) - 2
	for _, level := range slices.Backward(all) {
		inPairs := 0
		for _, x := range level[:taken] {
			if x.pair {
				inPairs += 2
			}
		}
		for _, symbol := range used[:taken-inPairs/2] {
			lengths[symbol]++
		}
		taken = inPairs
	}
}

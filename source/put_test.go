package source_test

import (
	"math"
	"slices"
	"strings"
	"testing"

	"catchword/api"
)

func TestPut(t *testing.T) { // P16.2: b's bytes are known, from at on; and the chapter's example
	s := made(t, 5)
	puts(t, s, 1, "ab", api.OK)
	knows(t, s, 1, 3)
	reads(t, s, 1, 9, "ab", false)
	puts(t, s, 3, "cd", api.OK)
	knows(t, s, 1, 5)
	reads(t, s, 1, 9, "abcd", true)
	puts(t, s, 0, "e", api.OK)
	knows(t, s, 0, 5)
	reads(t, s, 0, 9, "eabcd", true)
}

func TestPutKeepsWhatIsKnown(t *testing.T) { // P16.2: those that were known already stay what they were
	s := made(t, 10)
	puts(t, s, 2, "abc", api.OK)
	puts(t, s, 2, "xyz", api.OK)
	reads(t, s, 2, 9, "abc", false)
	puts(t, s, 0, "0123", api.OK)
	reads(t, s, 0, 9, "01abc", false)
	puts(t, s, 4, "3456", api.OK)
	reads(t, s, 0, 9, "01abc456", false)
	puts(t, s, 3, "-", api.OK)
	puts(t, s, 0, "..........", api.OK)
	reads(t, s, 0, 99, "01abc456..", true)
}

func TestPutBetweenMany(t *testing.T) { // P16.2: one piece fills what lies between others, and no more
	s := made(t, 6000)
	m := modelOf(6000)
	for at := 0; at+2 <= 6000; at += 7 {
		puts(t, s, at, "ab", m.put(at, []byte("ab")))
	}
	long := strings.Repeat("-+*", 1600)
	puts(t, s, 3, long, m.put(3, []byte(long)))
	isAs(t, s, m, []int{0, 1, 2, 3, 4, 7, 4802, 4803, 4804, 5000}, []int{0, 1, 5000, 7000})
	puts(t, s, 0, strings.Repeat("x", 6000), m.put(0, []byte(strings.Repeat("x", 6000))))
	isAs(t, s, m, []int{0, 3, 4803, 5999}, []int{7000})
}

func TestPutOfNothing(t *testing.T) { // P16.2: nothing is known of it, wherever it stands
	s := made(t, 5)
	for at := 0; at <= 5; at++ {
		puts(t, s, at, "", api.OK)
		if e := s.Put(at, nil); e != api.OK {
			t.Errorf("Put(%d, nil): %v", at, e)
		}
	}
	knows(t, s)
	reads(t, s, 0, 9, "", false)
}

func TestPutAtWrongPlaces(t *testing.T) { // P16.2: ErrArg, also where there are too many bytes; nothing is changed by it
	for _, total := range []int{0, 1, 5, 1024, 5000} {
		s := made(t, total)
		puts(t, s, total/2, strings.Repeat("k", total/4), api.OK)
		before := told(s)
		for _, at := range append([]int{total + 1, total + 2, total + 1024, most}, farOff...) {
			for _, b := range []string{"", "a", "abc", strings.Repeat("z", total), strings.Repeat("z", total+1)} {
				puts(t, s, at, b, api.ErrArg)
			}
		}
		if !told(s).sameAs(before) {
			t.Errorf("of %d bytes: refused calls have changed what is told", total)
		}
	}
}

func TestPutOfTooMuch(t *testing.T) { // P16.2: ErrRange, and nothing is changed by it, where some bytes would be known already too
	for _, total := range []int{0, 1, 2, 5, 1023, 1024, 1025, 3000} {
		s := made(t, total)
		puts(t, s, total/2, strings.Repeat("k", total/4), api.OK)
		before := told(s)
		for at := 0; at <= total; at += 1 + total/9 {
			puts(t, s, at, strings.Repeat("z", total-at+1), api.ErrRange)
			puts(t, s, at, strings.Repeat("z", total+1000), api.ErrRange)
		}
		puts(t, s, total, "z", api.ErrRange)
		if !told(s).sameAs(before) {
			t.Errorf("of %d bytes: refused calls have changed what is told", total)
		}
		puts(t, s, 0, strings.Repeat("z", total), api.OK)
		firsts(t, s, 0, total)
	}
}

func TestPutFarOff(t *testing.T) { // P16.2: in a file of the greatest length, at its end and at its midst
	s := made(t, most)
	puts(t, s, most-3, "end", api.OK)
	puts(t, s, most, "", api.OK)
	puts(t, s, most, "x", api.ErrRange)
	puts(t, s, most-2, "xyz", api.ErrRange)
	puts(t, s, most+1, "", api.ErrArg)
	puts(t, s, 0, "begin", api.OK)
	puts(t, s, 1<<30-2, "midst", api.OK)
	knows(t, s, 0, 5, 1<<30-2, 1<<30+3, most-3, most)
	reads(t, s, most-3, math.MaxInt, "end", true)
	reads(t, s, most-2, 2, "nd", true)
	reads(t, s, most-2, 1, "n", false)
	reads(t, s, most, math.MaxInt, "", true)
	reads(t, s, 1<<30-1, math.MaxInt, "idst", false)
	reads(t, s, 2, most, "gin", false)
	firsts(t, s, 1<<30, 1<<30+3)
	firsts(t, s, most-1, most)
	firsts(t, s, most-4, most-4)
}

func TestPutOnceEach(t *testing.T) { // P16.2: each piece of a small file, in a file where each other piece is known
	for from := 0; from <= 6; from++ {
		for to := from; to <= 6; to++ {
			for at := 0; at <= 6; at++ {
				for end := at; end <= 6; end++ {
					s, m := made(t, 6), modelOf(6)
					puts(t, s, from, "abcdef"[from:to], m.put(from, []byte("abcdef"[from:to])))
					puts(t, s, at, "ABCDEF"[at:end], m.put(at, []byte("ABCDEF"[at:end])))
					isAs(t, s, m, upto(-1, 7), upto(-1, 7))
				}
			}
		}
	}
}

func TestPutByChance(t *testing.T) { // P16.2 and P16.3, against a plain model: pieces, wrong ones too
	c := newChance(3)
	for range 150 {
		total := c.IntN(5000)
		if c.IntN(3) == 0 {
			total = c.IntN(30)
		}
		s, m := made(t, total), modelOf(total)
		for range c.IntN(40) {
			x := c.span(total)
			b := c.bytes(x.To - x.From)
			if c.IntN(9) == 0 {
				x.From += c.IntN(9) - 3
			}
			puts(t, s, x.From, string(b), m.put(x.From, b))
		}
		places := []int{-1, 0, 1, total - 1, total, total + 1}
		for range 6 {
			places = append(places, c.IntN(total+1))
		}
		for _, x := range m.spans() {
			places = append(places, x.From, x.To)
		}
		isAs(t, s, m, slices.Compact(places[:min(len(places), 16)]), []int{-1, 0, 1, 7, 1024, 1500, total, math.MaxInt})
	}
}

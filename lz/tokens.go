package lz

import "catchword/api"

// tries is how many places are tried for one repetition, so that bytes of which most are alike take not much longer than others.
const tries = 64

// Tokens are bytes'.
func Tokens(b []byte) []Token {
	if len(b) > api.MaxData {
		return nil
	}
	l := repetitions(b)
	out := make([]Token, 0, len(l))
	at := 0
	for _, r := range l {
		t := Token{Length: int(r.length), Far: int(r.far)}
		if t.Length == 0 {
			t.Byte = b[at]
		}
		out = append(out, t)
		at += t.size()
	}
	return out
}

// repetition is a token without its byte, and none if its length is 0. It is small, as there may be millions of them in a list that grows.
type repetition struct{ length, far uint16 }

// repetitions are those of bytes, each from where the one ahead ends.
func repetitions(b []byte) []repetition {
	s := steps(b)
	var out []repetition
	for at := 0; at < len(b); {
		r := longestAt(b, s, at)
		out = append(out, r)
		at += max(int(r.length), 1)
	}
	return out
}

// three are the three bytes at a place, as one number.
func three(b []byte, at int) uint32 {
	return uint32(b[at])<<16 | uint32(b[at+1])<<8 | uint32(b[at+2])
}

// steps are, by places, how far ahead the same three bytes stand last, 0 if nowhere, or too far. Of the two maps one has the last places and the other those ahead of these, so that places are forgotten once they are too far, and neither map grows.
func steps(b []byte) []uint16 {
	out := make([]uint16, len(b))
	last, ahead := map[uint32]int{}, map[uint32]int{}
	for at := range len(b) - shortest + 1 {
		if at%farthest == 0 {
			last, ahead = ahead, last
			clear(last)
		}
		key := three(b, at)
		from, ok := last[key]
		if !ok {
			from, ok = ahead[key]
		}
		if ok && at-from <= farthest {
			out[at] = uint16(at - from)
		}
		last[key] = at
	}
	return out
}

// longestAt is the longest repetition that is found for a place, and the nearest one of such.
func longestAt(b []byte, steps []uint16, at int) repetition {
	best := repetition{}
	far, step := 0, int(steps[at])
search:
	for range tries {
		far += step
		if step == 0 || far > farthest {
			break search
		}
		switch n := Match(b, at, far, longest); {
		case n == longest:
			best = repetition{longest, uint16(far)}
			break search
		case n > int(best.length):
			best = repetition{uint16(n), uint16(far)}
		}
		step = int(steps[at-far])
	}
	return best
}

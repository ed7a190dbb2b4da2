package parse_test

import (
	"strconv"
	"strings"
	"testing"

	"catchword/api"
)

func TestReferences(t *testing.T) { // P12.1: each first number, and each second one
	for _, first := range []int{-1 << 31, -4096, -2, -1, 0, 1, 2, 3, 4095, 4096, 4097, 4098, 65536, 1<<31 - 1} {
		for _, second := range []int{-65536, -2, -1, 0, 1, 2, 3, 4096, 65535, 1<<31 - 1} {
			s := strconv.Itoa(first) + " " + strconv.Itoa(second) + " R"
			if first < 1-1<<31 {
				fails(t, s, api.ErrRange)
				continue
			}
			around := map[string]func(api.Value) api.Value{
				s:                      func(v api.Value) api.Value { return v },
				"[" + s + "]":          func(v api.Value) api.Value { return array(v) },
				"[[] " + s + " 1 ]":    func(v api.Value) api.Value { return array(array(), v, whole(1)) },
				"[7 " + s + "]":        func(v api.Value) api.Value { return array(whole(7), v) },
				"[7 8 " + s + "]":      func(v api.Value) api.Value { return array(whole(7), whole(8), v) },
				"<</A " + s + ">>":     func(v api.Value) api.Value { return dict(name("A"), v) },
				"<</A " + s + "/B 1>>": func(v api.Value) api.Value { return dict(name("A"), v, name("B"), whole(1)) },
				"<</A[" + s + " 1]>>":  func(v api.Value) api.Value { return dict(name("A"), array(v, whole(1))) },
			}
			for u, in := range around {
				if first < 1 || first > 4096 || second != 0 {
					fails(t, u, api.ErrRef)
				} else {
					stands(t, u, in(ref(first)))
				}
			}
		}
	}
	for n := -10; n < 5000; n++ {
		s := strconv.Itoa(n) + " 0 R"
		if n >= 1 && n <= 4096 {
			reads(t, s, 0, true, ref(n), len(s), api.OK)
		} else {
			reads(t, s, 0, true, null(), 0, api.ErrRef)
		}
		few(t)
	}
}

func TestReferencesInOtherWriting(t *testing.T) { // P12.1: what counts is what the tokens are
	for s, n := range map[string]int{"1%c\n0%c\nR": 1, "1\x000\x00R": 1, "+12 +0 R": 12, "0012 000 R": 12, "12 -0 R": 12, "12\r\n0\t\fR": 12, "4096 %0 R\n0 R": 4096} {
		stands(t, s, ref(n))
		stands(t, "["+s+"]", array(ref(n)))
		stands(t, "<</K "+s+">>", dict(name("K"), ref(n)))
	}
	for _, s := range []string{"-0 0 R", "-1 0 R", "1 +1 R", "04097 0 R", "0 0 R", "0 1 R", "4097 1 R", "-1 -1 R"} {
		fails(t, s, api.ErrRef)
		fails(t, "["+s+"]", api.ErrRef)
		fails(t, "<</K "+s+">>", api.ErrRef)
		fails(t, "[[]"+s+" ) ", api.ErrRef)
	}
}

func TestIntsThatAreNoReferences(t *testing.T) { // P12.1: by another word than R, and by what is no Int, or no word
	for _, s := range []string{"1 0 r ", "1 0 obj ", "1 0 RR ", "1 0 R1 ", "1 0R ", "1 0.0 R ", "1 0 /R ", "1 0 (R) ", "1 0 <52> ", "1 0[R]", "1 0 ]R ", "1 /0 R ", "1 (0) R ", "1 [0 R]", "1 null R ", "1 R ", "1 R 0 R ", "1 true ", "1 0 0 R ", "1 0 0 0 R ", "1 0 true R ", "1 0 > R ", "1 0 ) R ", "1 ) 0 R ", "1 0 << R ", "1 obj 0 R "} {
		reads(t, s, 0, false, whole(1), 1, api.OK)
		reads(t, s, 0, true, whole(1), 1, api.OK)
		reads(t, strings.TrimRight(s, " "), 0, true, whole(1), 1, api.OK)
	}
	for _, s := range []string{"1.0 0 R", "1. 0 R", ".5 0 R", "(1) 0 R", "/1 0 R", "true 0 R"} { // none begins with an Int
		_, to, e := plainly([]byte(s), 0, true)
		if e != api.OK || to != strings.Index(s, " ") {
			t.Errorf("%q: %d, %v", s, to, e)
		}
		agrees(t, s, 0)
	}
	stands(t, "[1 0 2 0 R]", array(whole(1), whole(0), ref(2)))
	stands(t, "[1 2 3 4 0 R 5]", array(whole(1), whole(2), whole(3), ref(4), whole(5)))
	fails(t, "[1 0 R 0 R2]", api.ErrForm)
}

func TestIntsAtTheEnd(t *testing.T) { // P12.1: where nothing more comes they are what they are, where more may come they may be references
	for _, s := range []string{"1", "1 ", "1 %c", "1 0", "1 0 ", "1 0 %R", "1 0 0", "0", "0 ", "5000 1", "-1 ", "12 0 ", "1 2"} {
		n := len(strings.Fields(s)[0])
		v, _ := strconv.Atoi(s[:n])
		reads(t, s, 0, true, whole(v), n, api.OK)
		reads(t, "[ "+s, 2, true, whole(v), 2+n, api.OK)
		if strings.Count(s, "0") < 2 {
			reads(t, s, 0, false, null(), 0, api.ErrMore)
			reads(t, "[ "+s, 2, false, null(), 0, api.ErrMore)
		}
	}
	for _, s := range []string{"1 0 R", "0 0 R", "1 1 R", "1 0 RR", "1 0 o", "1 o", "1 R"} { // a word whose end is not seen may be another
		reads(t, s, 0, false, null(), 0, api.ErrMore)
		reads(t, "["+s, 0, false, null(), 0, api.ErrMore)
		reads(t, "<</A "+s, 0, false, null(), 0, api.ErrMore)
		agrees(t, s, 0)
	}
	reads(t, "1 0 R", 0, true, ref(1), 5, api.OK)
	reads(t, "0 0 R", 0, true, null(), 0, api.ErrRef)
}

func TestErrorsBehindAnInt(t *testing.T) { // P12.1: of the two tokens behind it only ErrMore is told
	for _, wrong := range []string{")", "}", "{", "> ", "<g", "<4 g>", "1.2.3 ", "- ", "4000000000 ", "/#0 ", "/#00 ", "/" + strings.Repeat("n", 128) + " "} {
		for _, s := range []string{"1 ", "1 0 ", "0 ", "5000 1 "} {
			n := strings.Index(s, " ")
			v, _ := strconv.Atoi(s[:n])
			for _, last := range []bool{true, false} {
				reads(t, s+wrong, 0, last, whole(v), n, api.OK)
			}
			_, _, e := plainly([]byte(wrong), 0, true)
			fails(t, "["+s+wrong, e) // there the token is asked for as a value
		}
	}
	for _, open := range []string{"(", "(a(b)", "<", "<4", "/", "/N", "/#", "/#0", "R", "obj", "0", "-", "1.2.3", "4000000000", ">", "(\\", "%", "% c"} {
		for _, s := range []string{"1 ", "1 0 ", "5000 1 "} {
			n := strings.Index(s, " ")
			v, _ := strconv.Atoi(s[:n])
			reads(t, s+open, 0, false, null(), 0, api.ErrMore)
			reads(t, "["+s+open, 0, false, null(), 0, api.ErrMore)
			if s != "1 0 " && s != "5000 1 " || open != "R" {
				reads(t, s+open, 0, true, whole(v), n, api.OK)
			}
		}
	}
	reads(t, "1 ) (", 0, false, whole(1), 1, api.OK) // the token behind it is not asked
	reads(t, "1 /N (", 0, false, whole(1), 1, api.OK)
	reads(t, "1 R (", 0, false, whole(1), 1, api.OK)
	reads(t, "1 2.0 (", 0, false, whole(1), 1, api.OK)
	reads(t, "1 0 R (", 0, false, ref(1), 5, api.OK)
	reads(t, "1 0 0 (", 0, false, whole(1), 1, api.OK)
}

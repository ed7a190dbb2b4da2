package num_test

import (
	"math/rand/v2"
	"strings"
	"testing"

	"catchword/api"
	"catchword/num"
)

func TestParseOfWholeNumbers(t *testing.T) { // P9.1, and the chapter's example
	for s, n := range map[string]int{
		"007": 7, "0": 0, "7": 7, "10": 10, "123": 123, "1234567890": 1234567890, "9876543": 9876543,
		"+7": 7, "-7": -7, "+007": 7, "-007": -7, "+120": 120, "-120": -120, "1000000": 1000000,
		"00": 0, "-0": 0, "+0": 0, "-00": 0, "+00": 0,
	} {
		parses(t, s, whole(n), api.OK)
	}
}

func TestParseOfMillionths(t *testing.T) { // P9.1, and the chapter's example: a point ahead of the digits, among them, behind them
	for s, n := range map[string]int{
		".5": 500000, "+.5": 500000, "-.5": -500000, ".000001": 1, "-.000001": -1, ".123456": 123456, ".0": 0, ".05": 50000,
		"1.5": 1500000, "+1.5": 1500000, "-1.5": -1500000, "3.141592": 3141592, "12.034": 12034000, "007.50": 7500000, "-0.002": -2000, "0.1": 100000, "34.500000": 34500000,
		"4.": 4000000, "+4.": 4000000, "-4.": -4000000, "0.": 0, "000.": 0, "0012.": 12000000,
		"-0.0": 0, "+0.0": 0, "-0.": 0, "-.0": 0, "+.0": 0, "0.000000": 0,
	} {
		parses(t, s, millionths(n), api.OK)
	}
}

func TestParseOfMoreThanSixDigits(t *testing.T) { // P9.1: they do not count, whatever they are
	for s, n := range map[string]int{
		"1.9999999": 1999999, "-1.9999999": -1999999, ".0000009": 0, "-.0000009": 0, ".0000019": 1, "0.1234567": 123456, "0.12345678901234567890": 123456,
		"2.0000000": 2000000, "-.9999999999": -999999, "99.99999949": 99999999, "1.0000001": 1000000,
	} {
		parses(t, s, millionths(n), api.OK)
	}
	parses(t, "."+strings.Repeat("9", 1<<20), millionths(999999), api.OK)
	parses(t, "-7."+strings.Repeat("0", 1<<20)+"1", millionths(-7000000), api.OK)
	parses(t, "+7."+strings.Repeat("123456789", 1<<17)+".", api.Value{}, api.ErrForm)
}

func TestParseOfNoNumbers(t *testing.T) { // P9.1
	for _, s := range []string{
		"", "+", "-", ".", "+.", "-.", "++", "--", "+-", "-+", "..", "+..", "-+.", ".+", ".-",
		"++1", "--1", "+-1", "-+1", "+-.1", "--.5", "++1.5",
		"1+", "1-", "1+2", "1-2", "1.-", "1.+", "1.-2", "1-.2", ".1-", "-.-1", ".-1", ".+1", "-1-", "+1+",
		"1..", "..1", "1..2", "1.2.3", ".1.", ".1.2", "1.2.", "-1.2.3", ". 1",
		" 1", "1 ", "1 2", "\t1", "1\n", "\x001", "1\x00", "1,5", "1_000", "0x10", "1e5", "1E5", "1e", "e1", "NaN", "Inf", "+Inf", "a", "1a", "a1", "#1", "/1", "(1)", "1/2", "1:2", "$1", "1%",
		"\x80", "\xff", "1\x80", "\xb21", "1\xff2", "1.\xc2", "\u0660", "\u06f51", "1\u0967", "\uff11", "1.\uff11", "\u00b2", "\u22121", "1\u00b75", "\ufffd", "1\ufffd", "\U0001d7d9",
	} {
		parses(t, s, api.Value{}, api.ErrForm)
	}
}

func TestParseAtTheBounds(t *testing.T) { // P9.1
	for s, want := range map[string]api.Value{
		"2147483647": whole(most), "+2147483647": whole(most), "-2147483647": whole(-most), "2147483646": whole(most - 1), "-2147483646": whole(1 - most),
		"0002147483647": whole(most), "-0000000000000000000002147483647": whole(-most),
		"2147483647.": millionths(mostReal), "+2147483647.0": millionths(mostReal), "-2147483647.": millionths(-mostReal), "-2147483647.000000": millionths(-mostReal),
		"2147483646.999999": millionths(mostReal - 1), "-2147483646.999999": millionths(1 - mostReal), "0002147483647.": millionths(mostReal), "-002147483647.0": millionths(-mostReal),
		"2147483647.0000009": millionths(mostReal), "-2147483647.0000009": millionths(-mostReal), "2147483646.9999999": millionths(mostReal - 1),
	} {
		parses(t, s, want, api.OK)
	}
	for _, s := range []string{
		"2147483648", "+2147483648", "-2147483648", "2147483649", "0002147483648", "-00000000000000000000002147483648",
		"2147483648.", "-2147483648.", "2147483648.0", "-2147483648.0", "0002147483648.", "-0002147483648.0", "2147483648.5",
		"2147483647.000001", "-2147483647.000001", "+2147483647.1", "-2147483647.9", "2147483647.999999", "2147483647.0000010", "0002147483647.000001",
		"3000000000", "4294967295", "4294967296", "-4294967297", "6442450944", "21474836470", "9223372036854775807", "9223372036854775808", "-9223372036854775808", "-9223372036854775809",
		"18446744073709551615", "18446744073709551616", "18446744073709551617", "-18446744073709551616", "18446744073709551616.5", "36893488147419103232", "18446744073709.551616", "9223372036854.775808", "10000000000.",
	} {
		parses(t, s, api.Value{}, api.ErrRange)
	}
}

func TestParseOfManyDigits(t *testing.T) { // P9.1: zeros ahead do not count, others do, in a number of any length
	zeros := strings.Repeat("0", 1<<20)
	parses(t, zeros, whole(0), api.OK)
	parses(t, "-"+zeros+"7", whole(-7), api.OK)
	parses(t, "+"+zeros+"2147483647", whole(most), api.OK)
	parses(t, zeros+"2147483648", api.Value{}, api.ErrRange)
	parses(t, zeros+"7.5", millionths(7500000), api.OK)
	parses(t, zeros+"."+zeros, millionths(0), api.OK)
	parses(t, "1"+zeros, api.Value{}, api.ErrRange)
	parses(t, "-1"+zeros+".0", api.Value{}, api.ErrRange)
	for n := 11; n < 200; n++ {
		for _, d := range []string{"1", "2", "4", "5", "8", "9"} {
			parses(t, strings.Repeat(d, n), api.Value{}, api.ErrRange)
			parses(t, d+strings.Repeat("0", n), api.Value{}, api.ErrRange)
			parses(t, "-"+strings.Repeat(d, n)+".5", api.Value{}, api.ErrRange)
		}
	}
}

func TestParseTellsTheFormFirst(t *testing.T) { // P9.1: ErrForm is named ahead of ErrRange
	nines := strings.Repeat("9", 100)
	for _, s := range []string{"2147483648x", "x2147483648", "2147483648-", "--2147483648", "2147483648..", "2147483648.5.", "2147483647.000001x", ".2147483648.", nines + " ", "-" + nines + ".1.", nines + "\xff"} {
		parses(t, s, api.Value{}, api.ErrForm)
	}
}

func TestParseOfAnyByteAnywhere(t *testing.T) { // P9.1: each byte at each place, put in and put in another's place
	for _, s := range []string{"", "1", "-17", "+4.", "-.002", "34.50", "2147483647", "-2147483647.0", "2147483646.999999"} {
		for at := range len(s) + 1 {
			for c := range 256 {
				agrees(t, s[:at]+string([]byte{byte(c)})+s[at:])
				if at < len(s) {
					agrees(t, s[:at]+string([]byte{byte(c)})+s[at+1:])
				}
			}
		}
	}
}

func TestParseOfAllShortTexts(t *testing.T) { // P9.1
	seen := map[api.Errno]int{}
	l := []string{""}
	for range 6 {
		var longer []string
		for _, s := range l {
			seen[agrees(t, s)]++
			for _, c := range "+-.019a" {
				longer = append(longer, s+string(c))
			}
		}
		l = longer
	}
	if seen[api.OK] == 0 || seen[api.ErrForm] == 0 {
		t.Error(seen)
	}
}

func TestParseOfManyTexts(t *testing.T) { // P9.1: texts that are numbers, or nearly, by chance
	r := rand.New(rand.NewPCG(9, 1))
	digits := func(n int) string {
		b := make([]byte, r.IntN(n+1))
		for i := range b {
			b[i] = "0123456789"[r.IntN(10)]
		}
		return string(b)
	}
	pick := func(l ...string) string { return l[r.IntN(len(l))] }
	seen := map[api.Errno]int{}
	for range 200000 {
		s := pick("", "", "+", "-", "--", " ") + pick("", "", "0", "0000000000", "214748364") + digits(10) + pick("", ".", ".", ".", "..", "+", ".-") + digits(9)
		seen[agrees(t, s)]++
	}
	if seen[api.OK] < 1000 || seen[api.ErrForm] < 1000 || seen[api.ErrRange] < 1000 {
		t.Error(seen)
	}
}

// counts asks for Digits' answer.
func counts(t *testing.T, s string, want int, e api.Errno) {
	t.Helper()
	if n, got := num.Digits(s); n != want || got != e {
		t.Errorf("Digits(%.40q), of %d bytes: %d, %v, want %d, %v", s, len(s), n, got, want, e)
	}
}

func TestDigits(t *testing.T) { // P9.3
	for s, n := range map[string]int{"0": 0, "7": 7, "9": 9, "42": 42, "0000000042": 42, "007": 7, "00": 0, "000000000000000000000000": 0, "65535": 65535, "1234567890": 1234567890,
		"2147483646": most - 1, "2147483647": most, "0002147483647": most} {
		counts(t, s, n, api.OK)
	}
}

func TestDigitsOfTooGreatNumbers(t *testing.T) { // P9.3
	for _, s := range []string{"2147483648", "0002147483648", "2147483649", "2147483650", "3000000000", "4294967296", "4294967297", "9999999999", "21474836470",
		"9223372036854775807", "9223372036854775808", "18446744073709551615", "18446744073709551616", "18446744073709551617", "36893488147419103233"} {
		counts(t, s, 0, api.ErrRange)
	}
}

func TestDigitsOfOtherBytes(t *testing.T) { // P9.3: ErrForm is named ahead of ErrRange
	for _, s := range []string{"", "+", "-", ".", " ", "+1", "-1", "-0", "+0", " 1", "1 ", "4 2", "1.", ".1", "1.0", "/", ":", "1/", ":1", "0/0", "9:9", "a", "1a", "0x1", "1e1", "1_0", "\x00", "1\n", "\t1",
		"\x80", "\xb1", "1\xff", "\u0661", "1\uff12", "\u00b9", "\ufffd", "2147483648x", "x2147483648", "99999999999999999999-", "-99999999999999999999", "21474836480.0"} {
		counts(t, s, 0, api.ErrForm)
	}
}

func TestDigitsOfAnyByteAnywhere(t *testing.T) { // P9.3
	for _, s := range []string{"", "4", "42", "0000", "2147483647", "99999999999999999999"} {
		for at := range len(s) + 1 {
			for c := range 256 {
				x := s[:at] + string([]byte{byte(c)}) + s[at:]
				if c < '0' || c > '9' {
					counts(t, x, 0, api.ErrForm)
					continue
				}
				v, e := plainly(x)
				counts(t, x, v.N, e)
			}
		}
	}
}

func TestDigitsOfManyDigits(t *testing.T) { // P9.3
	zeros := strings.Repeat("0", 1<<20)
	counts(t, zeros, 0, api.OK)
	counts(t, zeros+"2147483647", most, api.OK)
	counts(t, zeros+"2147483648", 0, api.ErrRange)
	counts(t, "1"+zeros, 0, api.ErrRange)
	counts(t, zeros+zeros+"-", 0, api.ErrForm)
	for n := 10; n < 200; n++ {
		for _, d := range []string{"3", "4", "5", "8", "9"} {
			counts(t, strings.Repeat(d, n), 0, api.ErrRange)
			counts(t, "2"+strings.Repeat("0", n), 0, api.ErrRange)
			counts(t, strings.Repeat("0", n)+d, int(d[0]-'0'), api.OK)
		}
	}
}

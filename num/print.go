package num

import (
	"strconv"
	"strings"

	"catchword/api"
)

// mostPadded is how many digits Pad makes at most.
const mostPadded = 20

// Print is a number's text.
func Print(v api.Value) (string, api.Errno) {
	if e := Check(v); e != api.OK {
		return "", e
	}
	sign, n := "", v.N
	if n < 0 {
		sign, n = "-", -n
	}
	if v.Kind == api.Int {
		return sign + strconv.Itoa(n), api.OK
	}
	return sign + strconv.Itoa(n/million) + "." + shortest(padded(n%million, places)), api.OK
}

// Pad is digits with zeros ahead.
func Pad(n, digits int) (string, api.Errno) {
	if n < 0 || digits < 1 || digits > mostPadded {
		return "", api.ErrArg
	}
	s := padded(n, digits)
	if len(s) > digits {
		return "", api.ErrArg
	}
	return s, api.OK
}

// padded is a number with zeros ahead, or with all its digits, if these are more.
func padded(n, digits int) string {
	s := strconv.Itoa(n)
	return strings.Repeat("0", max(0, digits-len(s))) + s
}

// shortest is digits behind a point without the zeros at their end, but for the first.
func shortest(digits string) string {
	return digits[:1] + strings.TrimRight(digits[1:], "0")
}

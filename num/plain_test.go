package num_test

import (
	"math/big"
	"regexp"
	"strings"
	"testing"

	"catchword/api"
	"catchword/num"
)

// most is the greatest whole number, mostReal the greatest number of millionths.
const (
	most     = 1<<31 - 1
	mostReal = most * 1000000
)

// form is a number's text by the chapter's words.
var form = regexp.MustCompile(`^[+-]?(?:[0-9]+(?:\.[0-9]*)?|\.[0-9]+)$`)

// plainly is Parse by the chapter's words, by numbers that are never too great.
func plainly(s string) (api.Value, api.Errno) {
	if !form.MatchString(s) {
		return api.Value{}, api.ErrForm
	}
	whole, part, point := strings.Cut(strings.Trim(s, "+-"), ".")
	n, _ := new(big.Int).SetString("0"+whole, 10)
	if n.Cmp(big.NewInt(most)) > 0 {
		return api.Value{}, api.ErrRange
	}
	kind := api.Int
	if point {
		kind = api.Real
		n, _ = new(big.Int).SetString(n.String()+(part + "000000")[:6], 10)
		if n.Cmp(big.NewInt(mostReal)) > 0 {
			return api.Value{}, api.ErrRange
		}
	}
	if s[0] == '-' {
		n.Neg(n)
	}
	return api.Value{Kind: kind, N: int(n.Int64())}, api.OK
}

// text is Print by the chapter's words, of a value that may be.
func text(v api.Value) string {
	s := new(big.Int).Abs(big.NewInt(int64(v.N))).String()
	if v.Kind == api.Real {
		s = strings.Repeat("0", max(0, 7-len(s))) + s
		s = s[:len(s)-6] + "." + s[len(s)-6:]
		for strings.HasSuffix(s, "0") && !strings.HasSuffix(s, ".0") {
			s = s[:len(s)-1]
		}
	}
	if v.N < 0 {
		s = "-" + s
	}
	return s
}

// alike tells whether two values are the same in each field.
func alike(a, b api.Value) bool {
	return a.Kind == b.Kind && a.N == b.N && a.S == b.S && len(a.L) == 0 && len(b.L) == 0
}

// parses asks for Parse's answer.
func parses(t *testing.T, s string, want api.Value, e api.Errno) {
	t.Helper()
	if v, got := num.Parse(s); !alike(v, want) || got != e {
		t.Errorf("Parse(%.40q), of %d bytes: %v, %v, want %v, %v", s, len(s), v, got, want, e)
	}
}

// agrees asks that Parse answers what the chapter's words say, and tells the error.
func agrees(t *testing.T, s string) api.Errno {
	t.Helper()
	want, e := plainly(s)
	parses(t, s, want, e)
	return e
}

// whole and millionths are numbers.
func whole(n int) api.Value      { return api.Value{Kind: api.Int, N: n} }
func millionths(n int) api.Value { return api.Value{Kind: api.Real, N: n} }

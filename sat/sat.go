// Package sat is layer 1: sums that know when they ran over. See shared/doc/01-sat.md.
package sat

import (
	"math"
	"strconv"
	"strings"

	"ebbtide/api"
)

// overMark stands behind the number of a sum that ran over.
const overMark = "!"

// Of: a number.
func Of(n int64) api.Sum { return api.Sum{N: n} }

// Add: b added to a. What ran over first is kept, so the order counts.
func Add(a, b api.Sum) api.Sum {
	switch {
	case a.Over:
		return a
	case b.Over:
		return b
	case above(a.N, b.N):
		return api.Sum{N: math.MaxInt64, Over: true}
	case below(a.N, b.N):
		return api.Sum{N: math.MinInt64, Over: true}
	}
	return Of(a.N + b.N)
}

// above: is a + b greater than 64 bits hold? It is asked by a difference, since the sum itself would wrap round.
func above(a, b int64) bool { return a > 0 && b > math.MaxInt64-a }

// below: is a + b less than 64 bits hold?
func below(a, b int64) bool { return a < 0 && b < math.MinInt64-a }

// Total: all, added to 0 one behind the other.
func Total(l ...api.Sum) api.Sum {
	t := Of(0)
	for _, s := range l {
		t = Add(t, s)
	}
	return t
}

// Text: of a sum.
func Text(s api.Sum) string {
	if s.Over {
		return Number(s.N) + overMark
	}
	return Number(s.N)
}

// Parse: of a text.
func Parse(s string) (api.Sum, api.Errno) {
	digits, over := strings.CutSuffix(s, overMark)
	n, e := Read(digits)
	if e != api.OK {
		return api.Sum{}, e
	}
	return api.Sum{N: n, Over: over}, api.OK
}

// Number: of a number.
func Number(n int64) string { return strconv.FormatInt(n, 10) }

// Read: a number.
func Read(s string) (int64, api.Errno) {
	if !formed(s) {
		return 0, api.ErrForm
	}
	n, err := strconv.ParseInt(s, 10, 64)
	if err != nil { // the form is right, so only the range can be wrong
		return 0, api.ErrRange
	}
	return n, api.OK
}

// formed: is s of a number's form? It must be looked at ahead of strconv, which takes a +, -0 and noughts ahead.
func formed(s string) bool {
	digits, minus := strings.CutPrefix(s, "-")
	if !allDigits(digits) {
		return false
	}
	if digits[0] == '0' {
		return len(digits) == 1 && !minus
	}
	return true
}

// allDigits: is s decimal digits, at least one?
func allDigits(s string) bool {
	for i := range len(s) {
		if s[i] < '0' || s[i] > '9' {
			return false
		}
	}
	return s != ""
}

// Package num is layer 1, numbers that don't go round: see shared/doc/01-num.md.
package num

import (
	"strconv"
	"strings"

	"weftway/api"
)

// Add: P1.1.
func Add(a, b int64) (int64, api.Errno) { return count(a, b, sided.plus) }

// Sub: P1.1.
func Sub(a, b int64) (int64, api.Errno) { return count(a, b, sided.less) }

// Mul: P1.1.
func Mul(a, b int64) (int64, api.Errno) { return count(a, b, sided.times) }

// Div: P1.2.
func Div(a, b int64) (int64, api.Errno) { return count(a, b, sided.by) }

// Mod: P1.2.
func Mod(a, b int64) (int64, api.Errno) { return count(a, b, sided.rest) }

// Neg: P1.1.
func Neg(a int64) (int64, api.Errno) { return Sub(0, a) }

// Parse: P1.3.
func Parse(s string) (int64, api.Errno) {
	digits, below := strings.CutPrefix(s, "-")
	// All of the text is looked at ahead of its size: that it is no numeral is told first.
	if !allDigits(digits) || below && digits[0] == '0' {
		return 0, api.ErrArg
	}
	size, e := sizeOf(digits)
	if e != api.OK {
		return 0, e
	}
	return side(below, size).number()
}

// Print: P1.3.
func Print(a int64) string { return strconv.FormatInt(a, 10) }

// allDigits says whether s is one or more digits.
func allDigits(s string) bool {
	for i := range len(s) {
		if s[i] < '0' || s[i] > '9' {
			return false
		}
	}
	return s != ""
}

// sizeOf tells the size that digits say: ErrOver, where no number is of it.
func sizeOf(digits string) (uint64, api.Errno) {
	size := uint64(0)
	for i := range len(digits) {
		// Ten times what passes here has room for a digit more, so that size never goes round.
		if size > leastSize/10 {
			return 0, api.ErrOver
		}
		size = size*10 + uint64(digits[i]-'0')
	}
	return size, api.OK
}

// count hands two numbers, taken apart, to do, and puts together what comes of them.
func count(a, b int64, do func(a, b sided) (sided, api.Errno)) (int64, api.Errno) {
	n, e := do(apart(a), apart(b))
	if e != api.OK {
		return 0, e
	}
	return n.number()
}

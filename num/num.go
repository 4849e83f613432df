// Package num is layer 1: checked integers and their decimal texts (see shared/doc/01-num.md).
package num

import (
	"math"
	"strings"

	"texttools/api"
)

// maxDigits is the number of digits of the greatest magnitude of an int, 2^63.
const maxDigits = 19

// Add returns a + b, or ErrOverflow if this is not an int.
func Add(a, b int) (int, api.Errno) {
	sum := a + b
	// Only a wrapped sum has a sign that neither operand has.
	if (sum^a)&(sum^b) < 0 {
		return 0, api.ErrOverflow
	}
	return sum, api.OK
}

// Sub returns a - b, or ErrOverflow if this is not an int.
func Sub(a, b int) (int, api.Errno) {
	difference := a - b
	// Operands of one sign cannot overflow; otherwise the difference has the sign of a.
	if (a^b)&(a^difference) < 0 {
		return 0, api.ErrOverflow
	}
	return difference, api.OK
}

// Mul returns a * b, or ErrOverflow if this is not an int.
func Mul(a, b int) (int, api.Errno) {
	if b == 0 {
		return 0, api.OK
	}
	product := a * b
	// The least int times -1 wraps to itself, and so does its quotient by -1: dividing would not show it.
	if leastByMinusOne(a, b) || product/b != a {
		return 0, api.ErrOverflow
	}
	return product, api.OK
}

// Div returns a / b rounded down; the errors are ErrDivide and ErrOverflow, in this order.
func Div(a, b int) (int, api.Errno) {
	if b == 0 {
		return 0, api.ErrDivide
	}
	if leastByMinusOne(a, b) {
		return 0, api.ErrOverflow
	}
	quotient := a / b
	// Go rounds towards 0, which is up where the exact quotient is negative.
	if a%b != 0 && (a < 0) != (b < 0) {
		quotient--
	}
	return quotient, api.OK
}

func leastByMinusOne(a, b int) bool {
	return a == math.MinInt && b == -1
}

// Parse returns the int whose decimal form is s; the errors are ErrSyntax and ErrOverflow, in this order.
func Parse(s string) (int, api.Errno) {
	digits, negative := strings.CutPrefix(s, "-")
	if !isMagnitude(digits) || negative && digits == "0" {
		return 0, api.ErrSyntax
	}
	n, err := negated(digits)
	if err != api.OK || negative {
		return n, err
	}
	return Sub(0, n)
}

// isMagnitude reports whether s is the decimal form of an integer that is not negative.
func isMagnitude(s string) bool {
	if s == "" || s[0] == '0' && len(s) > 1 {
		return false
	}
	for i := range len(s) {
		if s[i] < '0' || s[i] > '9' {
			return false
		}
	}
	return true
}

// negated returns minus the number that digits denotes: the least int has no positive counterpart.
func negated(digits string) (int, api.Errno) {
	n := 0
	for i := range len(digits) {
		shifted, err := Mul(n, 10)
		if err != api.OK {
			return 0, err
		}
		n, err = Sub(shifted, int(digits[i]-'0'))
		if err != api.OK {
			return 0, err
		}
	}
	return n, api.OK
}

// Format returns the decimal form of n.
func Format(n int) string {
	if n < 0 {
		// Negating after the conversion is right for the least int, too.
		return "-" + formatMagnitude(-uint64(n))
	}
	return formatMagnitude(uint64(n))
}

func formatMagnitude(magnitude uint64) string {
	count := countDigits(magnitude)
	text := make([]byte, count)
	for i := range count {
		text[count-1-i] = byte('0' + magnitude%10)
		magnitude /= 10
	}
	return string(text)
}

// countDigits returns the number of digits of a magnitude of at most maxDigits of them.
func countDigits(magnitude uint64) int {
	for i := range maxDigits {
		if magnitude < 10 {
			return i + 1
		}
		magnitude /= 10
	}
	return maxDigits
}

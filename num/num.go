// Package num is layer 1: see shared/doc/01-num.md.
package num

import "hindcast/api"

// How far from 0 a number may be, to either side.
const (
	mostAbove = uint64(1)<<63 - 1
	mostBelow = uint64(1) << 63
)

// Add is a sum.
func Add(a, b int64) int64 { return a + b }

// Sub is a difference.
func Sub(a, b int64) int64 { return a - b }

// Mul is a product.
func Mul(a, b int64) int64 { return a * b }

// Neg is a number with the other sign.
func Neg(a int64) int64 { return -a }

// Div is a quotient, cut towards 0; the language's own goes round for -2^63 by -1.
func Div(a, b int64) (int64, bool) {
	if b == 0 {
		return 0, false
	}
	return a / b, true
}

// Rem is what is left of a quotient.
func Rem(a, b int64) (int64, bool) {
	if b == 0 {
		return 0, false
	}
	return a % b, true
}

// Compare is how two numbers stand to each other.
func Compare(a, b int64) int {
	if a < b {
		return -1
	}
	if a > b {
		return 1
	}
	return 0
}

// Round is a number of fewer bits.
func Round(a int64, bits int) (int64, bool) {
	if bits < 1 || bits > 64 {
		return 0, false
	}
	// The way back from the left fills up with the topmost bit that is kept: its sign.
	gone := uint(64 - bits)
	return a << gone >> gone, true
}

// Text is a number's text.
func Text(a int64) string {
	if a < 0 {
		// As a number without a sign 2^63 doesn't go round.
		return "-" + digitsOf(-uint64(a))
	}
	return digitsOf(uint64(a))
}

// Parse is the number that a text is.
func Parse(s string) (int64, api.Errno) {
	digits, below := s, false
	if len(s) > 0 && s[0] == '-' {
		digits, below = s[1:], true
	}
	if !areDigits(digits) || below && digits == "0" {
		return 0, api.ErrForm
	}
	most := mostAbove
	if below {
		most = mostBelow
	}
	size, ok := sizeOf(digits, most)
	if !ok {
		return 0, api.ErrOver
	}
	if below {
		return int64(-size), api.OK
	}
	return int64(size), api.OK
}

// digitsOf writes from the last digit on, so it must know ahead how many there are.
func digitsOf(size uint64) string {
	count := digitCount(size)
	text := make([]byte, count)
	for i := range count {
		text[count-1-i] = '0' + byte(size%10)
		size /= 10
	}
	return string(text)
}

func digitCount(size uint64) int {
	count := 1
	for size >= 10 {
		size /= 10
		count++
	}
	return count
}

// areDigits tells whether a text is digits, at least one, without noughts ahead of others.
func areDigits(s string) bool {
	if s == "" || s[0] == '0' && len(s) > 1 {
		return false
	}
	for i := range len(s) {
		if s[i] < '0' || s[i] > '9' {
			return false
		}
	}
	return true
}

// sizeOf asks ahead of each digit whether there is room for it: behind it the number had gone round.
func sizeOf(digits string, most uint64) (uint64, bool) {
	size := uint64(0)
	for i := range len(digits) {
		digit := uint64(digits[i] - '0')
		if size > (most-digit)/10 {
			return 0, false
		}
		size = size*10 + digit
	}
	return size, true
}

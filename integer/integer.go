// Package integer implements layer 2: integers of any size as decimal texts.
package integer

import (
	"strconv"
	"strings"

	"cellarer/api"
	"cellarer/wide"
)

// Valid reports whether a text is canonical.
func Valid(s string) bool {
	digits := strings.TrimPrefix(s, "-")
	if digits == "" || len(digits) > api.MaxDigits {
		return false
	}
	for i := range len(digits) {
		if digits[i] < '0' || digits[i] > '9' {
			return false
		}
	}
	return digits[0] != '0' || s == "0"
}

// Add returns the sum of two integers.
func Add(a, b string) (string, api.Errno) {
	return combine(a, b, wide.Int.Plus)
}

// Sub returns the difference of two integers.
func Sub(a, b string) (string, api.Errno) {
	return combine(a, b, wide.Int.Minus)
}

// Mul returns the product of two integers.
func Mul(a, b string) (string, api.Errno) {
	return combine(a, b, wide.Int.Times)
}

// DivMod returns the quotient of two integers, rounded down, and the remainder, which is 0 or has the sign of b.
func DivMod(a, b string) (string, string, api.Errno) {
	x, y, ok := readBoth(a, b)
	if !ok {
		return "", "", api.ErrForm
	}
	if y.Sign() == 0 {
		return "", "", api.ErrZero
	}
	quotient, rest := x.DivideDown(y)
	return quotient.Text(), rest.Text(), api.OK
}

// Gcd returns the greatest common divisor of two integers, which is not negative.
func Gcd(a, b string) (string, api.Errno) {
	x, y, ok := readBoth(a, b)
	if !ok {
		return "", api.ErrForm
	}
	return wide.CommonDivisor(x, y).Text(), api.OK
}

// Cmp returns -1, 0 or 1 if a is less than, equal to, or greater than b, and 0 if one of them is not canonical.
func Cmp(a, b string) int {
	x, y, ok := readBoth(a, b)
	if !ok {
		return 0
	}
	return wide.Compare(x, y)
}

// Neg returns the text of -a, and the empty string if a is not canonical.
func Neg(a string) string {
	if !Valid(a) {
		return ""
	}
	return wide.Read(a).Negated().Text()
}

// Small returns the machine integer of a canonical text, and whether there is one.
func Small(s string) (int64, bool) {
	if !Valid(s) {
		return 0, false
	}
	n, err := strconv.ParseInt(s, 10, 64)
	if err != nil {
		return 0, false
	}
	return n, true
}

// Of returns the canonical text of a machine integer.
func Of(n int64) string {
	return strconv.FormatInt(n, 10)
}

// combine applies an operation to the integers of two texts.
func combine(a, b string, operate func(wide.Int, wide.Int) wide.Int) (string, api.Errno) {
	x, y, ok := readBoth(a, b)
	if !ok {
		return "", api.ErrForm
	}
	text := operate(x, y).Text()
	// The text of a number fails to be canonical only if it has too many digits.
	if !Valid(text) {
		return "", api.ErrLong
	}
	return text, api.OK
}

// readBoth returns the integers of two texts, and whether both texts are canonical.
func readBoth(a, b string) (wide.Int, wide.Int, bool) {
	if !Valid(a) || !Valid(b) {
		return wide.Int{}, wide.Int{}, false
	}
	return wide.Read(a), wide.Read(b), true
}

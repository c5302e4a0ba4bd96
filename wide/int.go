// Package wide calculates with integers of any length. Layers 2 and 3 share it: a number on the way to a result may have more digits than a text may have.
package wide

import (
	"cmp"
	"math/bits"
	"strconv"
)

// Int is an integer; the zero Int is 0. Most integers are short and need no limbs, which makes calculating with them fast.
type Int struct {
	small int64
	large *large // nil exactly if the integer has at most wordLimbs limbs
}

// large is an integer of more than wordLimbs limbs.
type large struct {
	negative bool
	size     natural
}

// Of returns a machine integer as an Int.
func Of(n int64) Int {
	if n > -wordLimit && n < wordLimit {
		return Int{small: n}
	}
	return signed(n < 0, naturalOf(magnitude(n)))
}

// Read returns the integer of a text, which consists of an optional - and decimal digits.
func Read(text string) Int {
	if len(text) <= limbDigits*wordLimbs {
		n, _ := strconv.ParseInt(text, 10, 64)
		return Int{small: n}
	}
	if text[0] == '-' {
		return signed(true, readNatural(text[1:]))
	}
	return signed(false, readNatural(text))
}

// Text returns the decimal digits of x, after a - if it is negative.
func (x Int) Text() string {
	if x.large == nil {
		return strconv.FormatInt(x.small, 10)
	}
	text := make([]byte, 0, 1+limbDigits*len(x.large.size))
	if x.large.negative {
		text = append(text, '-')
	}
	return string(x.large.size.appendTo(text))
}

// Sign returns -1, 0 or 1 if x is less than, equal to, or greater than 0.
func (x Int) Sign() int {
	switch {
	case x.large == nil:
		return cmp.Compare(x.small, 0)
	case x.large.negative:
		return -1
	}
	return 1
}

// IsOne reports whether x is 1.
func (x Int) IsOne() bool {
	return x.large == nil && x.small == 1
}

// Negated returns the opposite of x.
func (x Int) Negated() Int {
	if x.large == nil {
		return Int{small: -x.small}
	}
	return signed(!x.large.negative, x.large.size)
}

// Plus returns the sum of x and y.
func (x Int) Plus(y Int) Int {
	if x.large == nil && y.large == nil {
		return Of(x.small + y.small)
	}
	a, b := x.limbs(), y.limbs()
	if x.isNegative() == y.isNegative() {
		return signed(x.isNegative(), sum(a, b))
	}
	if compare(a, b) < 0 {
		return signed(y.isNegative(), difference(b, a))
	}
	return signed(x.isNegative(), difference(a, b))
}

// Minus returns the difference of x and y.
func (x Int) Minus(y Int) Int {
	return x.Plus(y.Negated())
}

// Times returns the product of x and y.
func (x Int) Times(y Int) Int {
	if x.large == nil && y.large == nil {
		high, low := bits.Mul64(magnitude(x.small), magnitude(y.small))
		if high == 0 && low < wordLimit {
			return Int{small: x.small * y.small}
		}
	}
	return signed(x.isNegative() != y.isNegative(), product(x.limbs(), y.limbs()))
}

// DivideDown returns the greatest integer that is at most x/y, and the remainder, where y is not 0.
func (x Int) DivideDown(y Int) (Int, Int) {
	quotient, rest := x.divide(y)
	if rest.Sign() == -y.Sign() {
		return quotient.Minus(Of(1)), rest.Plus(y)
	}
	return quotient, rest
}

// divide returns x/y, rounded towards 0, and the remainder.
func (x Int) divide(y Int) (Int, Int) {
	if x.large == nil && y.large == nil {
		return Int{small: x.small / y.small}, Int{small: x.small % y.small}
	}
	size, rest := divide(x.limbs(), y.limbs())
	return signed(x.isNegative() != y.isNegative(), size), signed(x.isNegative(), rest)
}

// CommonDivisor returns the greatest common divisor of x and y, which is not negative.
func CommonDivisor(x, y Int) Int {
	if x.large == nil && y.large == nil {
		return Int{small: int64(commonDivisorOfWords(magnitude(x.small), magnitude(y.small)))}
	}
	return signed(false, commonDivisor(x.limbs(), y.limbs()))
}

// Reduced returns the numerator and the denominator, greater than 0, of num divided by den in lowest terms, where den is not 0.
func Reduced(num, den Int) (Int, Int) {
	divisor := CommonDivisor(num, den)
	if den.Sign() < 0 {
		divisor = divisor.Negated()
	}
	if divisor.IsOne() {
		return num, den
	}
	num, _ = num.divide(divisor)
	den, _ = den.divide(divisor)
	return num, den
}

// Compare returns -1, 0 or 1 if x is less than, equal to, or greater than y.
func Compare(x, y Int) int {
	switch {
	case x.large == nil && y.large == nil:
		return cmp.Compare(x.small, y.small)
	case x.isNegative() && y.isNegative():
		return compare(y.limbs(), x.limbs())
	case x.isNegative():
		return -1
	case y.isNegative():
		return 1
	}
	return compare(x.limbs(), y.limbs())
}

// signed returns the integer with a sign and a size.
func signed(negative bool, size natural) Int {
	if len(size) > wordLimbs {
		return Int{large: &large{negative, size}}
	}
	small := int64(size.word())
	if negative {
		small = -small
	}
	return Int{small: small}
}

func (x Int) isNegative() bool {
	return x.Sign() < 0
}

// limbs returns the size of x as limbs.
func (x Int) limbs() natural {
	if x.large == nil {
		return naturalOf(magnitude(x.small))
	}
	return x.large.size
}

func magnitude(n int64) uint64 {
	if n < 0 {
		return -uint64(n)
	}
	return uint64(n)
}

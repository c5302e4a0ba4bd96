package rational

import (
	"strings"

	"cellarer/integer"
	"cellarer/wide"
)

// fraction is a rational number in lowest terms, with a denominator greater than 0.
type fraction struct {
	num, den wide.Int
}

func whole(n wide.Int) fraction {
	return fraction{num: n, den: wide.Of(1)}
}

// reduced returns the fraction for num divided by den, which is not 0.
func reduced(num, den wide.Int) fraction {
	num, den = wide.Reduced(num, den)
	return fraction{num, den}
}

// read returns the number of a text, and whether the text is canonical.
func read(s string) (fraction, bool) {
	num, den, divided := strings.Cut(s, "/")
	if !integer.Valid(num) {
		return fraction{}, false
	}
	if !divided {
		return whole(wide.Read(num)), true
	}
	if !integer.Valid(den) {
		return fraction{}, false
	}
	x := fraction{wide.Read(num), wide.Read(den)}
	if wide.Compare(x.den, wide.Of(1)) <= 0 || !wide.CommonDivisor(x.num, x.den).IsOne() {
		return fraction{}, false
	}
	return x, true
}

// readBoth returns the numbers of two texts, and whether both texts are canonical.
func readBoth(a, b string) (fraction, fraction, bool) {
	x, okA := read(a)
	y, okB := read(b)
	return x, y, okA && okB
}

// text returns the canonical text of x, and whether there is one: x may be too long.
func (x fraction) text() (string, bool) {
	num, den := x.num.Text(), x.den.Text()
	// The text of an integer fails to be canonical only if it has too many digits.
	if !integer.Valid(num) || !integer.Valid(den) {
		return "", false
	}
	if x.den.IsOne() {
		return num, true
	}
	return num + "/" + den, true
}

func (x fraction) negated() fraction {
	return fraction{x.num.Negated(), x.den}
}

// plus returns a numerator and a denominator of the sum of x and y.
func (x fraction) plus(y fraction) (wide.Int, wide.Int) {
	return x.num.Times(y.den).Plus(y.num.Times(x.den)), x.den.Times(y.den)
}

// floor returns the greatest integer that is not greater than x.
func (x fraction) floor() wide.Int {
	quotient, _ := x.num.DivideDown(x.den)
	return quotient
}

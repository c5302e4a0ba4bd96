package simplex

import (
	"cellarer/rational"
	"cellarer/wide"
)

// quotient is a numerator and a denominator greater than 0. Its text may be too long: only a pivot fails by that, and not the choice of its row.
type quotient struct {
	num, den wide.Int
}

// quotientOf returns a number divided by another one, which is greater than 0.
func quotientOf(number, by string) quotient {
	num, den, _ := rational.Parts(number)
	byNum, byDen, _ := rational.Parts(by)
	return quotient{wide.Read(num).Times(wide.Read(byDen)), wide.Read(den).Times(wide.Read(byNum))}
}

// compare returns -1, 0 or 1 if a is less than, equal to, or greater than b.
func compare(a, b quotient) int {
	return wide.Compare(a.num.Times(b.den), b.num.Times(a.den))
}

package system

import (
	"cmp"
	"slices"

	"cellarer/api"
	"cellarer/integer"
	"cellarer/rational"
	"cellarer/wide"
)

// Normal returns the normal form of a system.
func Normal(s api.System) (api.System, api.Errno) {
	if Check(s) != api.OK {
		return api.System{}, api.ErrForm
	}
	out := api.System{Cols: s.Cols}
	contradiction := false
	for _, r := range s.Rows {
		if len(r.Terms) == 0 {
			contradiction = contradiction || !isSatisfied(r.Const, r.Eq)
			continue
		}
		n, ok := normalRow(r)
		if !ok {
			return api.System{}, api.ErrLong
		}
		out.Rows = append(out.Rows, n)
	}
	if contradiction {
		out.Rows = []api.Row{{Const: "-1"}}
		return out, api.OK
	}
	slices.SortFunc(out.Rows, compareRows)
	out.Rows = slices.CompactFunc(out.Rows, func(a, b api.Row) bool { return compareRows(a, b) == 0 })
	return out, api.OK
}

// compareRows compares two rows in normal form; equal ones compare as 0.
func compareRows(a, b api.Row) int {
	if a.Eq != b.Eq {
		if a.Eq {
			return -1
		}
		return 1
	}
	order := slices.CompareFunc(a.Terms, b.Terms, func(s, t api.Term) int {
		if s.Col != t.Col {
			return cmp.Compare(s.Col, t.Col)
		}
		return compareNumbers(s.Coef, t.Coef)
	})
	if order != 0 {
		return order
	}
	return compareNumbers(a.Const, b.Const)
}

// compareNumbers compares two numbers, of which most are equal: rows often share the numbers with which they begin.
func compareNumbers(a, b string) int {
	if a == b {
		return 0
	}
	return rational.Cmp(a, b)
}

// normalRow returns the normal form of a row with terms, and whether its numbers are short enough.
func normalRow(r api.Row) (api.Row, bool) {
	numbers := make([]string, 0, len(r.Terms)+1)
	for _, t := range r.Terms {
		numbers = append(numbers, t.Coef)
	}
	numbers = append(numbers, r.Const)
	numbers, ok := wholeNumbers(numbers, r.Eq && isNegative(numbers[0]))
	if !ok {
		return api.Row{}, false
	}
	out := api.Row{Terms: slices.Clone(r.Terms), Const: numbers[len(r.Terms)], Eq: r.Eq}
	for i := range out.Terms {
		out.Terms[i].Coef = numbers[i]
	}
	return out, true
}

// wholeNumbers multiplies numbers, the first of which is not 0, by the number that makes them integers without a common divisor; it is negative if that is asked for. It also returns whether they are short enough.
func wholeNumbers(numbers []string, negative bool) ([]string, bool) {
	nums, dens := make([]wide.Int, len(numbers)), make([]wide.Int, len(numbers))
	divisor, multiple := wide.Of(0), wide.Of(1)
	for i, s := range numbers {
		num, den, _ := rational.Parts(s)
		nums[i], dens[i] = wide.Read(num), wide.Read(den)
		divisor = wide.CommonDivisor(divisor, nums[i])
		if den == "1" {
			continue
		}
		multiple = commonMultiple(multiple, dens[i])
		// The first number becomes at least the multiple divided by its denominator, which has at most MaxDigits digits: it will be too long. To go on would only take time.
		if len(multiple.Text()) > 2*api.MaxDigits {
			return nil, false
		}
	}
	if negative {
		divisor = divisor.Negated()
	}
	out := make([]string, len(numbers))
	for i := range out {
		num, _ := nums[i].DivideDown(divisor)
		factor, _ := multiple.DivideDown(dens[i])
		out[i] = num.Times(factor).Text()
		// The text of an integer fails to be canonical only if it has too many digits.
		if !integer.Valid(out[i]) {
			return nil, false
		}
	}
	return out, true
}

// commonMultiple returns the least common multiple of two numbers that are greater than 0.
func commonMultiple(a, b wide.Int) wide.Int {
	factor, _ := b.DivideDown(wide.CommonDivisor(a, b))
	return a.Times(factor)
}

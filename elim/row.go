package elim

import (
	"cmp"
	"slices"

	"cellarer/api"
	"cellarer/rational"
	"cellarer/wide"
)

// row is a row with integers of any length, which is what the sums of multiples need on the way to short numbers. Its Const is the last term, in the column after the last one. The columns ascend.
type row struct {
	terms []term
	eq    bool
}

type term struct {
	col int
	num wide.Int
}

// readRow returns a row of a system in normal form.
func readRow(r api.Row, cols int) row {
	out := row{make([]term, 0, len(r.Terms)+1), r.Eq}
	for _, t := range r.Terms {
		out.terms = append(out.terms, term{t.Col, wide.Read(t.Coef)})
	}
	out.terms = append(out.terms, term{cols, wide.Read(r.Const)})
	return out
}

// coef returns the coefficient of a column that the row contains.
func (r row) coef(col int) wide.Int {
	i, _ := slices.BinarySearchFunc(r.terms, col, func(t term, col int) int { return cmp.Compare(t.col, col) })
	return r.terms[i].num
}

// sum returns the sum of multiples of two rows, without terms that are 0; it is an equality if r is.
func (r row) sum(by wide.Int, other row, byOther wide.Int) row {
	out := row{make([]term, 0, len(r.terms)+len(other.terms)), r.eq}
	add := func(col int, num wide.Int) {
		if num.Sign() != 0 {
			out.terms = append(out.terms, term{col, num})
		}
	}
	a, b := r.terms, other.terms
	for len(a)+len(b) > 0 {
		switch {
		case len(b) == 0 || len(a) > 0 && a[0].col < b[0].col:
			add(a[0].col, a[0].num.Times(by))
			a = a[1:]
		case len(a) == 0 || b[0].col < a[0].col:
			add(b[0].col, b[0].num.Times(byOther))
			b = b[1:]
		default:
			add(a[0].col, a[0].num.Times(by).Plus(b[0].num.Times(byOther)))
			a, b = a[1:], b[1:]
		}
	}
	return out
}

// over returns r divided by a number, over some columns, and whether all its numbers are short enough.
func (r row) over(divisor wide.Int, cols int) (api.Row, bool) {
	out := api.Row{Const: "0", Eq: r.eq}
	for _, t := range r.terms {
		text, ok := quotient(t.num, divisor)
		if !ok {
			return api.Row{}, false
		}
		if t.col == cols {
			out.Const = text
		} else {
			out.Terms = append(out.Terms, api.Term{Col: t.col, Coef: text})
		}
	}
	return out, true
}

// quotient returns the text of num divided by den, and whether it is short enough to have one.
func quotient(num, den wide.Int) (string, bool) {
	num, den = wide.Reduced(num, den)
	// The texts of integers fail to be canonical only if they have too many digits.
	text, e := rational.Make(num.Text(), den.Text())
	return text, e == api.OK
}

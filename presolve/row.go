package presolve

import (
	"cmp"
	"slices"
	"strings"

	"cellarer/api"
	"cellarer/rational"
)

// row is a row of a system that is being reduced, and how it is made of the rows that the system had at first.
type row struct {
	api.Row
	from    int        // the row that it was at first
	weights []api.Term // the factors of the rows at first, whose sum it is; the columns of these terms are rows
}

// coef returns the coefficient of a column, and false if the row does not contain it.
func (r *row) coef(col int) (string, bool) {
	i, ok := find(r.Terms, col)
	if !ok {
		return "", false
	}
	return r.Terms[i].Coef, true
}

// subtract subtracts a multiple of another row, and of its weights.
func (r *row) subtract(factor string, of row) api.Errno {
	var e api.Errno
	if r.Terms, e = termsMinus(r.Terms, factor, of.Terms); e != api.OK {
		return e
	}
	if r.Const, e = minus(r.Const, factor, of.Const); e != api.OK {
		return e
	}
	r.weights, e = termsMinus(r.weights, factor, of.weights)
	return e
}

// termsMinus returns terms minus a multiple of others, in the memory of the terms. The columns of both ascend.
func termsMinus(terms []api.Term, factor string, of []api.Term) ([]api.Term, api.Errno) {
	for _, t := range of {
		i, ok := find(terms, t.Col)
		if !ok {
			terms = slices.Insert(terms, i, api.Term{Col: t.Col, Coef: "0"})
		}
		var e api.Errno
		if terms[i].Coef, e = minus(terms[i].Coef, factor, t.Coef); e != api.OK {
			return nil, e
		}
		if terms[i].Coef == "0" {
			terms = slices.Delete(terms, i, i+1)
		}
	}
	return terms, api.OK
}

// minus returns a number minus a multiple of another one.
func minus(number, factor, of string) (string, api.Errno) {
	product, e := rational.Mul(factor, of)
	if e != api.OK {
		return "", e
	}
	return rational.Sub(number, product)
}

// find returns where a column is among terms, or where it would be, and whether it is there.
func find(terms []api.Term, col int) (int, bool) {
	return slices.BinarySearchFunc(terms, col, func(t api.Term, col int) int { return cmp.Compare(t.Col, col) })
}

func isNegative(number string) bool {
	return strings.HasPrefix(number, "-")
}

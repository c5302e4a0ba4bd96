package elim

import (
	"slices"

	"cellarer/api"
	"cellarer/system"
	"cellarer/wide"
)

// elimination is the elimination of a column, with the rows that have been made so far.
type elimination struct {
	col, cols int
	rows      []api.Row
}

// eliminate returns the system from which a column of a system in normal form has been eliminated.
func eliminate(n api.System, col int) (api.System, api.Errno) {
	x := elimination{col: col, cols: n.Cols}
	holders := x.divide(n.Rows)
	if len(holders) == 0 {
		return n, api.OK
	}
	step := x.combine
	// In a normal form the equalities come first.
	if holders[0].eq {
		step = x.substitute
	}
	atLeastZero := row{terms: []term{{col, wide.Of(1)}}}
	if e := step(append(holders, atLeastZero)); e != api.OK {
		return api.System{}, e
	}
	return system.Normal(api.System{Cols: n.Cols, Rows: x.rows})
}

// divide returns the rows that contain the column, and takes over the others as they are.
func (x *elimination) divide(rows []api.Row) []row {
	var holders []row
	for _, r := range rows {
		if slices.ContainsFunc(r.Terms, func(t api.Term) bool { return t.Col == x.col }) {
			holders = append(holders, readRow(r, x.cols))
		} else {
			x.rows = append(x.rows, r)
		}
	}
	return holders
}

// substitute makes rows without the column of all but the first one, which is an equality and says what the column is.
func (x *elimination) substitute(holders []row) api.Errno {
	equality := holders[0]
	for _, r := range holders[1:] {
		if e := x.add(r, equality, equality.coef(x.col)); e != api.OK {
			return e
		}
	}
	return api.OK
}

// combine makes a row without the column of each lower bound and each upper bound.
func (x *elimination) combine(holders []row) api.Errno {
	var lower, upper []row
	collect := func(r row) {
		if r.coef(x.col).Sign() > 0 {
			lower = append(lower, r)
		} else {
			upper = append(upper, r)
		}
	}
	for _, r := range holders {
		collect(r)
	}
	if len(x.rows)+len(lower)*len(upper) > api.MaxRows {
		return api.ErrMany
	}
	for _, l := range lower {
		for _, u := range upper {
			if e := x.add(l, u, l.coef(x.col).Times(u.coef(x.col))); e != api.OK {
				return e
			}
		}
	}
	return api.OK
}

// add makes a row in which multiples of two rows cancel out in the column, divided by a number: the coefficient of q times p, minus that of p times q.
func (x *elimination) add(p, q row, divisor wide.Int) api.Errno {
	sum := p.sum(q.coef(x.col), q, p.coef(x.col).Negated())
	out, ok := sum.over(divisor, x.cols)
	if !ok {
		return api.ErrLong
	}
	x.rows = append(x.rows, out)
	return api.OK
}

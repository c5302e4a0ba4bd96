package tableau

import (
	"slices"

	"cellarer/api"
	"cellarer/rational"
)

// layout says where the columns of a tableau begin that are not those of the system.
type layout struct {
	slack, artificial int
	n                 int // the column of the right-hand sides
}

func layoutOf(s api.System) layout {
	l := layout{slack: s.Cols, artificial: s.Cols}
	for _, r := range s.Rows {
		if !r.Eq {
			l.artificial++
		}
	}
	l.n = l.artificial
	for _, r := range s.Rows {
		if isArtificial(r) {
			l.n++
		}
	}
	return l
}

// isArtificial reports whether the basic column of a row is artificial: whether 0 in all other columns does not solve its equation by a slack column.
func isArtificial(r api.Row) bool {
	return r.Eq || isNegative(r.Const)
}

// tableau returns the tableau of a system and the terms of a cost, each column of which occurs once.
func (l layout) tableau(s api.System, cost []api.Term) (Tableau, api.Errno) {
	t := Tableau{cols: s.Cols}
	// The entries of the last row are 0 in the end where they are 1 at first.
	last := zeros(l.n + 1)
	for col := l.artificial; col < l.n; col++ {
		last[col] = "1"
	}
	for _, r := range s.Rows {
		row, basic := l.equation(r)
		t.rows, t.basis = append(t.rows, row), append(t.basis, basic)
		if !r.Eq {
			l.slack++
		}
		if isArtificial(r) {
			l.artificial++
			var e api.Errno
			if last, e = subtraction(row)(last, "1"); e != api.OK {
				return Tableau{}, e
			}
		}
	}
	costs := zeros(l.n + 1)
	for _, term := range cost {
		costs[term.Col] = term.Coef
	}
	t.rows = append(t.rows, costs, last)
	return t, api.OK
}

// equation returns the equation of a row, with the next slack and artificial columns, and its basic column.
func (l layout) equation(r api.Row) ([]string, int) {
	row := zeros(l.n + 1)
	// The right-hand side, the opposite of Const, must not be negative.
	opposite := !isNegative(r.Const) && !(r.Eq && r.Const == "0")
	for _, t := range r.Terms {
		row[t.Col] = t.Coef
	}
	row[l.n] = rational.Neg(r.Const)
	if !r.Eq {
		row[l.slack] = "-1"
	}
	if opposite {
		negate(row)
	}
	if !isArtificial(r) {
		return row, l.slack
	}
	row[l.artificial] = "1"
	return row, l.artificial
}

func negate(row []string) {
	for i, x := range row {
		if x != "0" {
			row[i] = rational.Neg(x)
		}
	}
}

// quotients returns a row divided by a number.
func quotients(row []string, by string) ([]string, api.Errno) {
	out := slices.Clone(row)
	for i, x := range row {
		if x == "0" {
			continue
		}
		var e api.Errno
		if out[i], e = rational.Div(x, by); e != api.OK {
			return nil, e
		}
	}
	return out, api.OK
}

// subtraction returns a function that returns a row minus a factor times a given row.
func subtraction(of []string) func(row []string, factor string) ([]string, api.Errno) {
	var filled []int
	for i, x := range of {
		if x != "0" {
			filled = append(filled, i)
		}
	}
	return func(row []string, factor string) ([]string, api.Errno) {
		out := make([]string, len(row))
		copy(out, row)
		if factor == "0" {
			return out, api.OK
		}
		for _, i := range filled {
			product, e := rational.Mul(factor, of[i])
			if e == api.OK {
				out[i], e = rational.Sub(row[i], product)
			}
			if e != api.OK {
				return nil, e
			}
		}
		return out, api.OK
	}
}

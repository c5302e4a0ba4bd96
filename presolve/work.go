package presolve

import (
	"slices"

	"cellarer/api"
	"cellarer/rational"
)

// work is a system that is being reduced. It owns its rows.
type work struct {
	rows          []row
	substitutions []substitution
}

// substitution says that a column has a value that follows from the values of columns that were not substituted before it.
type substitution struct {
	col   int
	value func(values []string) (string, api.Errno)
}

// begun returns the work before its first step.
func begun(s api.System) *work {
	w := &work{rows: make([]row, len(s.Rows))}
	for i, r := range s.Rows {
		r.Terms = slices.Clone(r.Terms)
		w.rows[i] = row{Row: r, from: i, weights: []api.Term{{Col: i, Coef: "1"}}}
	}
	return w
}

// reduce does steps as long as one is possible.
func (w *work) reduce() api.Errno {
	for {
		if done, e := w.step(); !done || e != api.OK {
			return e
		}
	}
}

// step does the first of the possible steps, and reports whether there is one.
func (w *work) step() (bool, api.Errno) {
	for _, attempt := range [...]func() (bool, api.Errno){w.removeSatisfied, w.fix, w.tie} {
		if done, e := attempt(); done || e != api.OK {
			return done, e
		}
	}
	return false, api.OK
}

// removeSatisfied removes a row without terms that is satisfied.
func (w *work) removeSatisfied() (bool, api.Errno) {
	_, ok := w.take(func(r row) bool {
		return len(r.Terms) == 0 && (r.Const == "0" || !r.Eq && !isNegative(r.Const))
	})
	return ok, api.OK
}

// fix substitutes a column that has the same value in all solutions.
func (w *work) fix() (bool, api.Errno) {
	r, ok := w.take(func(r row) bool {
		return r.Eq && len(r.Terms) == 1 && (r.Const == "0" || isNegative(r.Const) != isNegative(r.Terms[0].Coef))
	})
	if !ok {
		return false, api.OK
	}
	fixed, e := rational.Div(rational.Neg(r.Const), r.Terms[0].Coef)
	if e != api.OK {
		return false, e
	}
	return true, w.substitute(r, r.Terms[0], func([]string) (string, api.Errno) { return fixed, api.OK })
}

// tie substitutes a column that is the same multiple of another one in all solutions.
func (w *work) tie() (bool, api.Errno) {
	r, ok := w.take(func(r row) bool {
		return r.Eq && len(r.Terms) == 2 && r.Const == "0" && isNegative(r.Terms[0].Coef) != isNegative(r.Terms[1].Coef)
	})
	if !ok {
		return false, api.OK
	}
	to := r.Terms[0].Col
	ratio, e := rational.Div(rational.Neg(r.Terms[0].Coef), r.Terms[1].Coef)
	if e != api.OK {
		return false, e
	}
	return true, w.substitute(r, r.Terms[1], func(values []string) (string, api.Errno) { return rational.Mul(ratio, values[to]) })
}

// take removes the first row that is wanted, and reports whether there is one.
func (w *work) take(isWanted func(r row) bool) (row, bool) {
	i := slices.IndexFunc(w.rows, isWanted)
	if i < 0 {
		return row{}, false
	}
	r := w.rows[i]
	w.rows = slices.Delete(w.rows, i, i+1)
	return r, true
}

// substitute removes the column of a term from all rows by multiples of the row of the term, which has been taken.
func (w *work) substitute(of row, t api.Term, value func(values []string) (string, api.Errno)) api.Errno {
	for i := range w.rows {
		coef, ok := w.rows[i].coef(t.Col)
		if !ok {
			continue
		}
		factor, e := rational.Div(coef, t.Coef)
		if e == api.OK {
			e = w.rows[i].subtract(factor, of)
		}
		if e != api.OK {
			return e
		}
	}
	w.substitutions = append(w.substitutions, substitution{t.Col, value})
	return api.OK
}

// finished returns the rows that remain over the columns that occur in them, and what maps back to the system that was reduced. The rows pass over to these results.
func (w *work) finished(s api.System) (api.System, Undo) {
	u := Undo{count: len(s.Rows), substitutions: w.substitutions}
	occurs := make([]bool, s.Cols)
	for _, r := range w.rows {
		for _, t := range r.Terms {
			occurs[t.Col] = true
		}
	}
	numbers := make([]int, s.Cols)
	for col, ok := range occurs {
		if ok {
			numbers[col] = len(u.kept)
			u.kept = append(u.kept, col)
		} else {
			u.gone = append(u.gone, col)
		}
	}
	reduced := api.System{Cols: len(u.kept)}
	for _, r := range w.rows {
		for i, t := range r.Terms {
			r.Terms[i].Col = numbers[t.Col]
		}
		reduced.Rows = append(reduced.Rows, r.Row)
		u.from = append(u.from, r.from)
		u.weights = append(u.weights, r.weights)
	}
	return reduced, u
}

package simplex

import (
	"strings"

	"cellarer/api"
	"cellarer/tableau"
)

// none is the index of no row and of no column.
const none = -1

// work is the method at work on a system and a cost.
type work struct {
	tableau    tableau.Tableau
	rows, cols int // the numbers of rows and columns; behind them are the rows of costs and the right-hand sides
	artificial int // the first artificial column
	unbounded  int // the column in which the cost is unbounded, or none
	pivots     int
}

// solved returns the work when all steps of the method are done.
func solved(s api.System, cost []api.Term) (work, api.Errno) {
	w, e := begun(s, cost)
	if e != api.OK {
		return work{}, e
	}
	// improve returns the column in which a row of costs is unbounded, and none if the row is done. The least of several columns and rows is chosen each time, which prevents that bases recur.
	improve := func(costs int) (int, api.Errno) {
		for {
			col := w.first(costs, isNegative)
			if col == none {
				return none, api.OK
			}
			row := w.leaving(col)
			if row == none {
				return col, api.OK
			}
			if e := w.pivot(row, col); e != api.OK {
				return none, e
			}
		}
	}
	if _, e := improve(w.rows + 1); e != api.OK {
		return work{}, e
	}
	if w.isContradictory() {
		return w, api.OK
	}
	if e := w.replaceArtificial(); e != api.OK {
		return work{}, e
	}
	if w.unbounded, e = improve(w.rows); e != api.OK {
		return work{}, e
	}
	return w, api.OK
}

// begun returns the work before its first step.
func begun(s api.System, cost []api.Term) (work, api.Errno) {
	t, e := tableau.Of(s, cost)
	if e != api.OK {
		return work{}, e
	}
	w := work{tableau: t, artificial: s.Cols, unbounded: none}
	w.rows, w.cols = t.Size()
	for _, r := range s.Rows {
		if !r.Eq {
			w.artificial++
		}
	}
	return w, api.OK
}

// isContradictory reports whether artificial columns are needed to satisfy the equations, as far as the last row of costs has been improved.
func (w *work) isContradictory() bool {
	return isNegative(w.tableau.Entry(w.rows+1, w.cols))
}

// replaceArtificial makes other columns basic where an artificial one is, as far as that is possible. The values do not change by this.
func (w *work) replaceArtificial() api.Errno {
	for row, basic := range w.tableau.Basis() {
		if basic < w.artificial {
			continue
		}
		col := w.first(row, func(entry string) bool { return entry != "0" })
		if col == none {
			continue
		}
		if e := w.pivot(row, col); e != api.OK {
			return e
		}
	}
	return api.OK
}

// first returns the first column that is not artificial and whose entry in a row is wanted, and none if there is none.
func (w *work) first(row int, isWanted func(entry string) bool) int {
	for col := range w.artificial {
		if isWanted(w.tableau.Entry(row, col)) {
			return col
		}
	}
	return none
}

// leaving returns the row whose basic column is the first to become 0 when a column grows, and none if there is none.
func (w *work) leaving(col int) int {
	leaving, least := none, quotient{}
	basis := w.tableau.Basis()
	for row := range w.rows {
		entry := w.tableau.Entry(row, col)
		if !isPositive(entry) {
			continue
		}
		limit := quotientOf(w.tableau.Entry(row, w.cols), entry)
		order := -1
		if leaving != none {
			order = compare(limit, least)
		}
		if order < 0 || order == 0 && basis[row] < basis[leaving] {
			leaving, least = row, limit
		}
	}
	return leaving
}

func (w *work) pivot(row, col int) api.Errno {
	t, e := w.tableau.Pivot(row, col)
	if e != api.OK {
		return e
	}
	w.tableau = t
	w.pivots++
	return api.OK
}

func isNegative(number string) bool {
	return strings.HasPrefix(number, "-")
}

func isPositive(number string) bool {
	return number != "0" && !isNegative(number)
}

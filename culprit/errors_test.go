package culprit

import (
	"math"
	"slices"
	"testing"

	"cellarer/api"
	"cellarer/simplex"
)

// These two rows contradict each other without a pivot. The first one alone takes a pivot with a quotient that is too long, but not if 1/9 is in the place of 1/10; the second one alone is contradictory without a pivot.
var (
	more = power + " x0 + 1/10 x1 + -1 >= 0"
	less = "-" + power + " x0 + -1/10 x1 + -1 >= 0"
	// These are the same with numbers that are not too long.
	shortMore = power + " x0 + 1/9 x1 + -1 >= 0"
	shortLess = "-" + power + " x0 + -1/9 x1 + -1 >= 0"
)

func TestErrorsOfCulprits(t *testing.T) {
	for _, s := range badSystems() {
		checkCulprits(t, s, nil, api.ErrForm)
	}
	// The system itself.
	checkCulprits(t, rows(2, more), nil, api.ErrLong)
	checkCulprits(t, rows(2, more, "-1 >= 0"), nil, api.ErrLong)
	checkCulprits(t, rows(2, more, "1 >= 0"), nil, api.ErrLong)
	checkCulprits(t, rows(2, shortMore), nil, api.ErrNone)
	// A system that is examined: without the last row, the other one is too long, but not without the first one.
	checkCulprits(t, rows(2, more, less), nil, api.ErrLong)
	checkCulprits(t, rows(2, shortMore, shortLess), []int{1}, api.OK)
	checkCulprits(t, rows(2, less, more), []int{0}, api.OK)
	checkCulprits(t, rows(2, shortLess, shortMore), []int{0}, api.OK)
	checkCulprits(t, rows(2, "1 >= 0", less, more), []int{1}, api.OK)
	// Only the systems with the rows that remain are examined: that without rows 0 and 2 is not.
	checkCulprits(t, rows(2, less, more, "-1 >= 0"), []int{0}, api.OK)
	checkCulprits(t, rows(2, "-1 >= 0", more, less), nil, api.ErrLong)
}

func TestErrorsOfMinimal(t *testing.T) {
	for _, s := range badSystems() {
		for _, subset := range [][]int{nil, {0}, {-1}, {0, 0}, {9, 9}} {
			checkMinimal(t, s, subset, false, api.ErrForm)
		}
	}
	s := rows(2, more, less, "-1 >= 0")
	for _, i := range []int{-1, 3, math.MinInt, math.MaxInt, api.MaxRows} {
		for _, subset := range [][]int{{i}, {i, i}, {0, i}, {i, 0}, {0, 0, i}, {i, 0, 0}, {0, i, 0}, {2, 1, i, 0}} {
			checkMinimal(t, s, subset, false, api.ErrRange)
		}
	}
	checkMinimal(t, api.System{}, []int{0}, false, api.ErrRange)
	for _, subset := range [][]int{{0, 0}, {0, 1, 0}, {1, 0, 0}, {0, 0, 1}, {2, 1, 0, 2}, {2, 2, 2}} {
		checkMinimal(t, s, subset, false, api.ErrTwice)
	}
	checkMinimal(t, s, slices.Repeat([]int{1}, 3*api.MaxRows), false, api.ErrTwice)
	// The subset, and then those without one of its rows, in the order in which the rows are given, up to the first one that is still contradictory.
	checkMinimal(t, s, []int{0}, false, api.ErrLong)
	checkMinimal(t, s, []int{0, 2}, false, api.ErrLong)
	checkMinimal(t, s, []int{1}, true, api.OK)
	checkMinimal(t, s, []int{2}, true, api.OK)
	checkMinimal(t, s, []int{0, 1}, false, api.OK)
	checkMinimal(t, s, []int{1, 0}, false, api.ErrLong)
	checkMinimal(t, rows(2, shortMore, shortLess), []int{1, 0}, false, api.OK)
	checkMinimal(t, rows(2, shortMore), []int{0}, false, api.OK)
}

func TestErrorsOfRelax(t *testing.T) {
	for _, s := range badSystems() {
		checkRelaxError(t, s, api.ErrForm)
	}
	checkRelaxError(t, many(api.MaxCols, api.MaxRows, "-1 = 0"), api.ErrMany)
	checkRelaxError(t, rows(2, more), api.ErrLong)
	checkRelax(t, rows(2, shortMore), "0")
	// Too many columns precede what simplex says.
	checkRelaxError(t, rows(api.MaxCols-1, more), api.ErrLong)
	checkRelaxError(t, rows(api.MaxCols, more), api.ErrMany)
	checkRelaxError(t, rows(api.MaxCols-1, more, "1 >= 0"), api.ErrMany)
	// The least violation is itself too long.
	checkRelax(t, many(0, 9, "-"+power+" >= 0"), "9"+power[1:])
	checkRelaxError(t, many(0, 10, "-"+power+" >= 0"), api.ErrLong)
}

// TestMostColumns has as many further columns as there may be, and one more.
func TestMostColumns(t *testing.T) {
	checkRelax(t, rows(api.MaxCols), "0")
	checkRelaxError(t, rows(api.MaxCols, "1 >= 0"), api.ErrMany)
	checkRelax(t, rows(api.MaxCols-1, "-1 >= 0"), "1")
	checkRelaxError(t, rows(api.MaxCols-1, "1 = 0"), api.ErrMany)
	checkRelax(t, rows(api.MaxCols-2, "1 x2045 + 1 = 0"), "1")
	checkRelax(t, rows(api.MaxCols-3, "1 x2044 + 1 = 0", "-2 >= 0"), "3")
	checkRelaxError(t, rows(api.MaxCols-2, "1 x2045 + 1 = 0", "-2 >= 0"), api.ErrMany)
	checkRelax(t, rows(api.MaxCols-4, "1 x2043 + 1 = 0", "-2 = 0"), "3")
	checkRelaxError(t, rows(api.MaxCols-3, "1 x2044 + 1 = 0", "-2 = 0"), api.ErrMany)
}

// TestMostEntries has tableaus of simplex with as many entries as there may be, and one row or column more.
func TestMostEntries(t *testing.T) {
	// Each row takes one further column and one slack column.
	checkRelax(t, many(1027, 510, "1 x0 + 1 >= 0"), "0")
	checkRelaxError(t, many(1028, 510, "1 x0 + 1 >= 0"), api.ErrMany)
	checkRelaxError(t, many(1027, 511, "1 x0 + 1 >= 0"), api.ErrMany)
	s := many(1, 1022, "-2 x0 + 10 >= 0")
	checkCulprits(t, s, nil, api.ErrNone)
	checkCulprits(t, many(2, 1022, "-2 x0 + 10 >= 0"), nil, api.ErrMany)
	checkCulprits(t, many(1, 1023, "-2 x0 + 10 >= 0"), nil, api.ErrMany)
	checkCulprits(t, many(api.MaxCols, api.MaxRows, "-1 >= 0"), nil, api.ErrMany)
	all := make([]int, 1023)
	for i := range all {
		all[i] = i
	}
	checkMinimal(t, s, all[:1022], false, api.OK)
	checkMinimal(t, many(2, 1023, "-2 x0 + 10 >= 0"), all[:1021], false, api.OK)
	checkMinimal(t, many(2, 1022, "-2 x0 + 10 >= 0"), all[:1022], false, api.ErrMany)
	checkMinimal(t, many(1, api.MaxRows, "-2 x0 + 10 >= 0"), all, false, api.ErrMany)
	// Few rows of a system that is itself too large.
	s = many(1, api.MaxRows, "-1 >= 0")
	checkMinimal(t, s, []int{api.MaxRows - 1}, true, api.OK)
	checkMinimal(t, s, []int{api.MaxRows}, false, api.ErrRange)
	if answer, e := simplex.Feasible(s); e != api.ErrMany {
		t.Errorf("the answer for too many rows is %s, %d", brief(answer), e)
	}
}

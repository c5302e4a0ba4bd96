package elim

import (
	"math"
	"slices"
	"testing"

	"cellarer/api"
	"cellarer/system"
)

func TestEliminate(t *testing.T) {
	for _, c := range []struct {
		s    api.System
		col  int
		want api.System
	}{
		{rows(2, "1 x0 + 1 x1 + -2 >= 0", "-1 x0 + 3 >= 0"), 0, rows(2, "1 x1 + 1 >= 0")},
		{rows(2, "1 x0 + 1 x1 + -2 >= 0", "-1 x0 + 3 >= 0"), 1, rows(2, "-1 x0 + 3 >= 0")},
		// Without rows, and without the column.
		{rows(1), 0, rows(1)},
		{rows(3, "2 x0 + -2 x2 >= 0 # 4", "1 x0 + -1 x2 >= 0 # 5", "1 >= 0"), 1, rows(3, "1 x0 + -1 x2 >= 0")},
		{rows(2, "-1/2 >= 0"), 1, rows(2, "-1 >= 0")},
		{rows(1, "1/2 = 0", "1 x0 >= 0"), 0, rows(1, "-1 >= 0")},
		// Bounds: that of the column itself is one.
		{rows(1, "-1 x0 + 3 >= 0"), 0, rows(1)},
		{rows(1, "-1 x0 + -3 >= 0"), 0, rows(1, "-1 >= 0")},
		{rows(1, "1 x0 + -3 >= 0", "-1 x0 + 2 >= 0"), 0, rows(1, "-1 >= 0")},
		{rows(2, "-1 x0 + 2 x1 + -3 >= 0"), 0, rows(2, "2 x1 + -3 >= 0")},
		{rows(2, "1 x0 + -2 x1 + -3 >= 0"), 0, rows(2)},
		{rows(3, "2 x0 + 1 x1 >= 0", "-3 x0 + 1 x2 + 5 >= 0", "1 x1 + -1 x2 = 0"), 0, rows(3, "1 x1 + -1 x2 = 0", "3 x1 + 2 x2 + 10 >= 0", "1 x2 + 5 >= 0")},
		{rows(3, "1 x0 + 1 x1 >= 0", "1/2 x0 + 1/2 x1 >= 0", "-1 x0 + 1 x2 >= 0", "-1 x0 + 1 x2 >= 0 # 3"), 0, rows(3, "1 x1 + 1 x2 >= 0", "1 x2 >= 0")},
		// Equalities: the first one of the normal form counts.
		{rows(1, "2 x0 + -1 = 0"), 0, rows(1)},
		{rows(1, "2 x0 + 1 = 0"), 0, rows(1, "-1 >= 0")},
		{rows(2, "-2 x0 + 4 x1 + 6 = 0", "1 x0 + -1 x1 >= 0"), 0, rows(2, "1 x1 + 3 >= 0", "2 x1 + 3 >= 0")},
		{rows(2, "1 x0 + -2 x1 + -3 = 0", "-1 x0 + 1 x1 = 0"), 0, rows(2, "1 x1 + 3 = 0", "2 x1 + 3 >= 0")},
		{rows(3, "1 x0 + 1 x2 + -7 = 0", "1 x0 + -1 x1 = 0", "1 x0 + -5 >= 0"), 0, rows(3, "1 x1 + 1 x2 + -7 = 0", "1 x1 + -5 >= 0", "1 x1 >= 0")},
		{rows(3, "1 x1 + -4 = 0", "2 x0 + -3 x2 + 1 = 0", "1 x0 + 1 x1 >= 0"), 2, rows(3, "1 x1 + -4 = 0", "1 x0 + 1 x1 >= 0", "2 x0 + 1 >= 0")},
	} {
		got, e := Eliminate(c.s, c.col)
		check(t, "Eliminate", got, e, c.want)
	}
	d := newDrawn(1)
	for range 3000 {
		s := d.system(1+d.Intn(4), d.Intn(7))
		if e := checkEliminate(t, s, d.Intn(s.Cols)); e != api.OK {
			t.Fatalf("Eliminate for %v fails with %d", s, e)
		}
	}
}

func TestProject(t *testing.T) {
	example := rows(3, "1 x0 + 1 x1 + -2 >= 0 # 1", "-2 x0 + 6 >= 0", "-1 x1 + 1 x2 = 0")
	for _, c := range []struct {
		s    api.System
		keep []int
		want api.System
	}{
		{example, []int{0, 1, 2}, rows(3, "1 x1 + -1 x2 = 0", "-1 x0 + 3 >= 0", "1 x0 + 1 x1 + -2 >= 0")},
		{example, []int{1, 2}, rows(3, "1 x1 + -1 x2 = 0", "1 x1 + 1 >= 0")},
		{example, []int{2}, rows(3, "1 x2 >= 0", "1 x2 + 1 >= 0")},
		{example, nil, rows(3)},
		{rows(0), nil, rows(0)},
		{rows(0, "1 >= 0"), nil, rows(0)},
		{rows(0, "1 = 0"), nil, rows(0, "-1 >= 0")},
		{rows(3), []int{1}, rows(3)},
	} {
		got, e := Project(c.s, c.keep...)
		check(t, "Project", got, e, c.want)
	}
	d := newDrawn(2)
	for range 500 {
		s := d.system(d.Intn(4), d.Intn(5))
		var keep []int
		want, _ := system.Normal(s)
		for col := range s.Cols {
			if d.Intn(2) == 0 {
				keep = append(keep, col)
			} else {
				want, _ = plainEliminate(want, col)
			}
		}
		got, e := Project(s, keep...)
		check(t, "Project", got, e, want)
		slices.Reverse(keep)
		got, e = Project(s, slices.Concat(keep, keep)...)
		check(t, "Project with columns in another order, and twice", got, e, want)
	}
}

func TestFeasible(t *testing.T) {
	for _, c := range []struct {
		s    api.System
		want bool
	}{
		{rows(2, "1 x0 + 1 x1 + -2 >= 0", "-1 x0 + 3 >= 0"), true},
		{rows(2, "2 x0 + -1 = 0", "-1 x0 + 1 x1 = 0", "-3 x1 + 1 >= 0"), false},
		{rows(2, "2 x0 + -1 = 0", "-1 x0 + 1 x1 = 0", "-2 x1 + 1 >= 0"), true},
		{rows(0), true},
		{rows(api.MaxCols), true},
		{rows(0, "0 >= 0", "0 = 0", "1/2 >= 0"), true},
		{rows(0, "1/2 = 0"), false},
		{rows(3, "1 x0 >= 0", "-1 >= 0"), false},
		{rows(1, "1 x0 + 1 = 0"), false},
		{rows(1, "-1 x0 >= 0"), true},
		{rows(1, "-1 x0 + -1 >= 0"), false},
		{rows(2, "1 x0 + -1 x1 + -1 >= 0", "-1 x0 + 1 x1 + -1 >= 0"), false},
		{rows(2, "1 x0 + -1 x1 + -1 >= 0", "-1 x0 + 1 x1 + 1 >= 0"), true},
	} {
		checkFeasible(t, c.s, c.want, api.OK)
	}
	d := newDrawn(3)
	found := map[bool]int{}
	for range 1500 {
		s := d.system(d.Intn(4), d.Intn(6))
		want := len(corners(s)) > 0
		checkFeasible(t, s, want, api.OK)
		found[want]++
	}
	if found[true] < 100 || found[false] < 100 {
		t.Errorf("of the drawn systems, %d have a solution, and %d have none", found[true], found[false])
	}
}

func TestRange(t *testing.T) {
	example := rows(2, "1 x0 + 1 x1 + -2 >= 0", "-1 x0 + 3 >= 0")
	for _, c := range []struct {
		s               api.System
		col             int
		least, greatest string
	}{
		{example, 0, "0", "3"},
		{example, 1, "0", "-"},
		{rows(1), 0, "0", "-"},
		{rows(1, "1 >= 0"), 0, "0", "-"},
		{rows(1, "1 x0 + 5 >= 0"), 0, "0", "-"},
		{rows(1, "3 x0 + -5 >= 0"), 0, "5/3", "-"},
		{rows(1, "3 x0 + -5 = 0"), 0, "5/3", "5/3"},
		{rows(1, "1 x0 = 0"), 0, "0", "0"},
		{rows(1, "-1 x0 >= 0"), 0, "0", "0"},
		{rows(1, "1 x0 + -1 >= 0", "1 x0 + -4 >= 0", "1 x0 + -2 >= 0", "-1 x0 + 9 >= 0", "-1 x0 + 7 >= 0", "-1 x0 + 8 >= 0"), 0, "4", "7"},
		{rows(1, "1 x0 + -4 >= 0", "-1 x0 + 9 >= 0", "1 x0 + -5 = 0"), 0, "5", "5"},
		{rows(1, "1 x0 + -5 >= 0", "-1 x0 + 5 >= 0"), 0, "5", "5"},
		{rows(3, "1 x0 + -1 x2 = 0", "1 x2 + -5 >= 0", "1 x0 + 1 x1 + -11/2 = 0"), 1, "0", "1/2"},
		{rows(3, "1 x0 + -1 x2 = 0", "1 x2 + -5 >= 0", "1 x0 + 1 x1 + -11/2 = 0"), 0, "5", "11/2"},
		{rows(1, longest+" x0 + -1 >= 0", "-1 x0 + "+longest+" >= 0"), 0, "1/" + longest, longest},
	} {
		checkRange(t, c.s, c.col, c.least, c.greatest)
	}
	d := newDrawn(4)
	found := map[string]int{}
	for range 1500 {
		s := d.system(1+d.Intn(3), d.Intn(5))
		col := d.Intn(s.Cols)
		all := corners(s)
		if len(all) == 0 {
			checkRangeError(t, s, col, api.ErrNone)
			found["none"]++
			continue
		}
		slices.SortFunc(all, func(a, b []string) int { return number(a[col]).Cmp(number(b[col])) })
		least, greatest := all[0][col], all[len(all)-1][col]
		if isUnlimited(s, col) {
			greatest = "-"
			found["unlimited"]++
		}
		checkRange(t, s, col, least, greatest)
	}
	if found["none"] < 100 || found["unlimited"] < 100 {
		t.Errorf("of the drawn systems, %v", found)
	}
}

func TestRangeErrNone(t *testing.T) {
	for _, s := range []api.System{
		rows(2, "2 x0 + -1 = 0", "-1 x0 + 1 x1 = 0", "-3 x1 + 1 >= 0"),
		rows(2, "-1 >= 0"),
		rows(2, "1/2 = 0", "1 x0 + 1 x1 >= 0"),
		rows(2, "1 x0 + 1 = 0", "1 x1 + 1 = 0"),
		rows(2, "-1 x0 + -1 >= 0", "-1 x1 + -1 >= 0"),
		rows(2, "1 x0 + -1 = 0", "1 x0 + -2 = 0"),
		rows(2, "1 x0 + -3 >= 0", "-1 x0 + 2 >= 0"),
		rows(2, "1 x0 + 1 x1 + -3 >= 0", "-1 x0 + -1 x1 + 2 >= 0"),
	} {
		for col := range 2 {
			checkRangeError(t, s, col, api.ErrNone)
		}
	}
}

// badSystems are systems that are not valid, also in their sizes.
func badSystems() []api.System {
	good := rows(2, "1 x0 >= 0").Rows
	return []api.System{
		{Cols: -1}, {Cols: math.MinInt}, {Cols: api.MaxCols + 1}, {Cols: math.MaxInt, Rows: good},
		{Cols: 2, Rows: slices.Repeat(good, api.MaxRows+1)},
		{Cols: 2, Rows: []api.Row{{}}},
		{Cols: 2, Rows: []api.Row{good[0], {Const: "2/4"}}},
		{Cols: 2, Rows: []api.Row{{Const: "0", Terms: []api.Term{{Col: 2, Coef: "1"}}}}},
		{Cols: 2, Rows: []api.Row{{Const: "0", Terms: []api.Term{{Col: 1, Coef: "1"}, {Col: 0, Coef: "1"}}}}},
		{Cols: 2, Rows: []api.Row{{Const: "0", Terms: []api.Term{{Col: 1, Coef: "0"}}}}},
	}
}

func TestArgumentErrors(t *testing.T) {
	for _, s := range badSystems() {
		for _, col := range []int{0, 1, 2, -1, math.MaxInt} {
			got, e := Eliminate(s, col)
			checkError(t, "Eliminate for a system that is not valid", got, e, api.ErrForm)
			got, e = Project(s, 0, col)
			checkError(t, "Project for a system that is not valid", got, e, api.ErrForm)
			checkRangeError(t, s, col, api.ErrForm)
		}
		got, e := Project(s)
		checkError(t, "Project for a system that is not valid", got, e, api.ErrForm)
		checkFeasible(t, s, false, api.ErrForm)
	}
	// The normal form of the last system has numbers that are too long, which only matters if there is such a column.
	for _, s := range []api.System{rows(2, "1 x0 >= 0"), rows(2, "-1 >= 0"), rows(2, "2 x0 + 1/"+longest+" >= 0")} {
		for _, col := range []int{-1, 2, math.MinInt, math.MaxInt} {
			got, e := Eliminate(s, col)
			checkError(t, "Eliminate of a column that is none", got, e, api.ErrRange)
			for _, keep := range [][]int{{col}, {col, 0}, {0, 1, col}} {
				got, e = Project(s, keep...)
				checkError(t, "Project to a column that is none", got, e, api.ErrRange)
			}
			checkRangeError(t, s, col, api.ErrRange)
		}
	}
	got, e := Eliminate(rows(0), 0)
	checkError(t, "Eliminate without columns", got, e, api.ErrRange)
	got, e = Project(rows(0), 0)
	checkError(t, "Project without columns", got, e, api.ErrRange)
	checkRangeError(t, rows(0), 0, api.ErrRange)
}

// TestNormalErrors checks systems whose own normal form has numbers that are too long, also where no column is eliminated.
func TestNormalErrors(t *testing.T) {
	s := rows(2, "1 x0 + -1 >= 0", "2 x0 + 1/"+longest+" >= 0", "-1 >= 0")
	for col := range 2 {
		got, e := Eliminate(s, col)
		checkError(t, "Eliminate with a long normal form", got, e, api.ErrLong)
		checkRangeError(t, s, col, api.ErrLong)
	}
	for _, keep := range [][]int{nil, {0}, {0, 1}} {
		got, e := Project(s, keep...)
		checkError(t, "Project with a long normal form", got, e, api.ErrLong)
	}
	checkFeasible(t, s, false, api.ErrLong)
	short := rows(1, "1 x0 + 1/"+longest+" >= 0")
	got, e := Project(short, 0)
	check(t, "Project with numbers of MaxDigits digits", got, e, rows(1, longest+" x0 + 1 >= 0"))
}

// TestSolutionsRemain checks that solutions satisfy all eliminations.
func TestSolutionsRemain(t *testing.T) {
	d := newDrawn(5)
	for range 500 {
		s, values := d.satisfied(1+d.Intn(4), d.Intn(6))
		if holds, e := system.Holds(s, values); !holds || e != api.OK {
			t.Fatalf("%q do not hold for %v: %d", values, s, e)
		}
		for col := range s.Cols {
			rest, e := Eliminate(s, col)
			if holds, _ := system.Holds(rest, values); !holds || e != api.OK {
				t.Fatalf("%q hold for %v, but not without column %d for %v, %d", values, s, col, rest, e)
			}
		}
		checkFeasible(t, s, true, api.OK)
	}
}

// TestSolutionsReturn checks that values that hold for an elimination, and no others, become a solution with some value of the column.
func TestSolutionsReturn(t *testing.T) {
	d := newDrawn(6)
	found := map[bool]int{}
	for range 1500 {
		s, _ := d.satisfied(1+d.Intn(3), d.Intn(5))
		col := d.Intn(s.Cols)
		rest, _ := Eliminate(s, col)
		values := make([]string, s.Cols)
		fixed := api.System{Cols: s.Cols, Rows: slices.Clone(s.Rows)}
		for other := range values {
			values[other] = []string{"0", "1", "2", "1/2", "5"}[d.Intn(5)]
			if other != col {
				fixed.Rows = append(fixed.Rows, api.Row{Const: number(values[other]).Neg(number(values[other])).RatString(), Terms: []api.Term{{Col: other, Coef: "1"}}, Eq: true})
			}
		}
		holds, _ := system.Holds(rest, values)
		solutions := corners(fixed)
		if holds != (len(solutions) > 0) {
			t.Fatalf("%q hold without column %d of %v: %v, but the solutions with them are %q", values, col, s, holds, solutions)
		}
		found[holds]++
	}
	if found[true] < 100 || found[false] < 100 {
		t.Errorf("of the drawn values, %v", found)
	}
}

// TestOrder checks that the solutions do not depend on the order in which columns are eliminated.
func TestOrder(t *testing.T) {
	d := newDrawn(7)
	for range 500 {
		s := d.system(3, d.Intn(5))
		kept := d.Intn(3)
		first, second := (kept+1)%3, (kept+2)%3
		least, hasLeast, greatest, hasGreatest, e := Range(s, kept)
		a, _ := Eliminate(s, first)
		a, _ = Eliminate(a, second)
		b, _ := Eliminate(s, second)
		b, _ = Eliminate(b, first)
		for _, rest := range []api.System{a, b} {
			low, hasLow, high, hasHigh, f := Range(rest, kept)
			if low != least || hasLow != hasLeast || high != greatest || hasHigh != hasGreatest || f != e {
				t.Fatalf("the range of column %d of %v is %s to %s, %d, and %s to %s, %d after another order", kept, s, least, greatest, e, low, high, f)
			}
		}
	}
}

// TestMemory checks that arguments, and their spare capacity, stay as they are, and that results do not share memory with them.
func TestMemory(t *testing.T) {
	lines := []string{"1 x0 + 1 x1 + -2 >= 0", "-1 x0 + 3 >= 0", "1 x1 + -1 x2 = 0", "1 x2 + -1 >= 0"}
	s, before := rows(3, lines...), rows(3, lines...)
	s.Rows = append(make([]api.Row, 0, 9), s.Rows...)
	keep := append(make([]int, 0, 9), 2, 1)
	var results []api.System
	for col := range 3 {
		got, _ := Eliminate(s, col)
		results = append(results, got)
		Range(s, col)
	}
	got, _ := Project(s, 0, 1, 2)
	results = append(results, got)
	got, _ = Project(s, keep...)
	results = append(results, got)
	Feasible(s)
	for _, r := range results {
		for i := range r.Rows {
			for j := range r.Rows[i].Terms {
				r.Rows[i].Terms[j].Col += 1000
				if r.Rows[i].Terms[j].Col > 2000 {
					t.Errorf("the rows of %v share terms", r)
				}
			}
			r.Rows[i].Const = "77"
		}
	}
	if !same(s, before) || s.Rows[:9][8].Const != "" || !slices.Equal(keep[:9], []int{2, 1, 0, 0, 0, 0, 0, 0, 0}) {
		t.Errorf("the arguments have become %v and %v", s, keep[:9])
	}
}

package simplex

import (
	"math"
	"slices"
	"strings"
	"testing"

	"cellarer/api"
	"cellarer/certify"
)

// The numbers with exactly MaxDigits digits that are most used here.
var (
	longest = strings.Repeat("9", api.MaxDigits)
	power   = ten(api.MaxDigits)
)

// many returns a system with the same row many times.
func many(cols, count int, line string) api.System {
	s := rows(cols, line)
	s.Rows = slices.Repeat(s.Rows, count)
	return s
}

// TestErrors checks the errors of tableaus, and that they precede each other and the other results.
func TestErrors(t *testing.T) {
	good, large := rows(2, "1 x0 + -1 >= 0"), many(2, 1022, "1 x0 >= 0")
	long := []api.Term{{Col: 0, Coef: longest}, {Col: 0, Coef: longest}}
	for _, s := range []api.System{
		{Cols: -1}, {Cols: api.MaxCols + 1}, {Cols: math.MinInt}, {Cols: 1, Rows: make([]api.Row, api.MaxRows+1)}, {Cols: 1, Rows: []api.Row{{}}},
		{Cols: 1, Rows: []api.Row{{Const: "2/4"}}}, {Cols: 1, Rows: []api.Row{{Const: "0", Terms: terms("x1")}}},
		{Cols: 1, Rows: []api.Row{{Const: "-1"}, {Const: "0", Terms: []api.Term{{Col: 0, Coef: "0"}}}}},
		{Cols: 2, Rows: []api.Row{{Const: "0", Terms: []api.Term{{Col: 1, Coef: "1"}, {Col: 0, Coef: "1"}}}}},
		{Cols: 2, Rows: []api.Row{{Const: "0", Terms: []api.Term{{Col: 0, Coef: "1"}, {Col: 0, Coef: "1"}}}}},
	} {
		checkError(t, s, nil, api.ErrForm)
		checkError(t, s, terms("x7"), api.ErrForm)
		checkError(t, s, long, api.ErrForm)
	}
	for _, coef := range []string{"", "-", "-0", "+1", "01", "2/4", "1/1", "1/0", "x", " 1", "1.5", longest + "0", "1/" + longest + "0"} {
		for _, s := range []api.System{good, large, rows(0), rows(0, "-1 >= 0")} {
			checkError(t, s, []api.Term{{Col: 9, Coef: "1"}, {Col: 0, Coef: coef}}, api.ErrForm)
		}
	}
	for _, col := range []int{-1, 2, api.MaxCols, math.MinInt, math.MaxInt} {
		for _, s := range []api.System{good, large, rows(0), rows(0, "-1 >= 0")} {
			checkError(t, s, append(slices.Clone(long), api.Term{Col: col, Coef: "0"}), api.ErrRange)
		}
	}
	checkError(t, large, long, api.ErrMany)
	checkError(t, large, nil, api.ErrMany)
	checkError(t, good, long, api.ErrLong)
	checkError(t, rows(2, "-1 >= 0"), long, api.ErrLong)
	checkError(t, rows(2, longest+" x0 = 0", "1 x0 = 0"), nil, api.ErrLong)
}

// TestMostEntries has tableaus with as many entries as there may be, and with one row or column more.
func TestMostEntries(t *testing.T) {
	zeros := slices.Repeat(list("0"), 1021)
	s := many(1, 1022, "-2 x0 + 10 >= 0")
	check(t, s, terms("-x0"), Answer{Values: list("5"), Mult: append(list("1/2"), zeros...), Cost: "-5"}, 1, api.OK)
	checkError(t, many(2, 1022, "-2 x0 + 10 >= 0"), terms("-x0"), api.ErrMany)
	checkError(t, many(1, 1023, "-2 x0 + 10 >= 0"), terms("-x0"), api.ErrMany)
	s = many(1, 1022, "2 x0 + -10 = 0")
	check(t, s, terms("3 x0"), Answer{Values: list("5"), Mult: append(list("3/2"), zeros...), Cost: "15"}, 1, api.OK)
	checkError(t, many(2, 1022, "2 x0 + -10 = 0"), terms("3 x0"), api.ErrMany)
	checkError(t, many(2, 1023, "-1 = 0"), nil, api.ErrMany)
	check(t, many(1027, 510, "-1 >= 0"), nil, Answer{Status: None, Mult: slices.Repeat(list("1"), 510)}, 0, api.OK)
	checkError(t, many(1028, 510, "-1 >= 0"), nil, api.ErrMany)
	checkError(t, many(api.MaxCols, api.MaxRows, "-1 >= 0"), nil, api.ErrMany)
}

// TestLongPivots has numbers of MaxDigits digits and of one more in pivots of each step.
func TestLongPivots(t *testing.T) {
	for _, c := range []struct {
		what  string
		lines []string
		cost  string
		want  api.Errno
	}{
		{"a quotient in step 1", []string{power + " x0 + 1/10 x1 + -1 >= 0"}, "0", api.ErrLong},
		{"a quotient in step 1", []string{power + " x0 + 1/9 x1 + -1 >= 0"}, "0", api.OK},
		{"a product in step 1, which precedes the Status None", []string{"1 x0 + -10 x1 + -1 >= 0", "-" + power + " x0 + -1 >= 0", power + " x0 + -" + power + " >= 0"}, "0", api.ErrLong},
		{"a quotient in step 2", []string{"-1/10 x0 + -" + power + " x1 = 0"}, "0", api.ErrLong},
		{"a quotient in step 2", []string{"-1/9 x0 + -" + power + " x1 = 0"}, "0", api.OK},
		{"a quotient in step 3", []string{"-1/10 x0 + " + power + " >= 0"}, "-x0", api.ErrLong},
		{"a quotient in step 3", []string{"-1/9 x0 + " + power + " >= 0"}, "-x0", api.OK},
		{"the cost", []string{"-1 x0 + " + power + " >= 0"}, "-10 x0", api.ErrLong},
		{"the cost", []string{"-1 x0 + " + power + " >= 0"}, "-9 x0", api.OK},
		{"a step before the cost is unbounded", []string{"-1/10 x0 + " + power + " >= 0"}, "-x0 - x1", api.ErrLong},
		{"a step before the cost is unbounded", []string{"-1/9 x0 + " + power + " >= 0"}, "-x0 - x1", api.OK},
		{"a step that is not reached", []string{"-1/10 x1 + " + power + " >= 0"}, "-x0 - x1", api.OK},
	} {
		if _, e := checkPlain(t, rows(2, c.lines...), terms(c.cost)); e != c.want {
			t.Errorf("%s: Solve for %q returns %d, want %d", c.what, c.lines, e, c.want)
		}
	}
}

// TestLongQuotients has quotients of right-hand sides and entries that are too long, but are not calculated by a pivot.
func TestLongQuotients(t *testing.T) {
	for _, c := range []struct {
		lines []string
		value string // empty if the pivot is at the quotient that is too long
	}{
		{[]string{"-1/" + power + " x0 + " + power + " >= 0", "-1 x0 >= 0"}, "0"},
		{[]string{"-1/" + power + " x0 + 10 >= 0", "-1 x0 + " + power + " >= 0"}, power},
		{[]string{"-1 x0 + " + power + " >= 0", "-1/" + power + " x0 + 10 >= 0"}, power},
		{[]string{"-1/" + power + " x0 + 9 >= 0", "-1 x0 + " + power + " >= 0"}, power},
		{[]string{"-1/" + power + " x0 + 10 >= 0", "-1/" + power + " x0 + 11 >= 0", "-1 x0 + " + power + " >= 0"}, power},
		{[]string{"-1/" + power + " x0 + 1 >= 0", "-1/" + power + " x0 + 10 >= 0", "-1 x0 + " + longest + " >= 0"}, power},
		{[]string{"-1/" + power + " x0 + 10 >= 0"}, ""},
		{[]string{"-1/" + power + " x0 + 11 >= 0", "-1/" + power + " x0 + 10 >= 0"}, ""},
		{[]string{"-1 x0 + 1 >= 0", "-10 x0 + 1/" + power + " >= 0"}, ""},
		{[]string{"-1 x0 + 1/" + power + " >= 0", "-10 x0 + 1/" + power + " >= 0"}, ""},
		{[]string{"-10 x0 + 1/" + power + " >= 0", "-1 x0 >= 0"}, "0"},
	} {
		s := rows(1, c.lines...)
		got, e := checkPlain(t, s, terms("-x0"))
		if c.value == "" && e != api.ErrLong || c.value != "" && (e != api.OK || got.Values[0] != c.value) {
			t.Errorf("Solve for %q is %v, %d, want the value %s", c.lines, got, e, c.value)
		}
	}
}

// TestLongMultipliers has a multiplier that differs by 1 from an entry of MaxDigits digits, and is itself one digit longer if two rows add up to a power of ten.
func TestLongMultipliers(t *testing.T) {
	more, less, bound := "6"+power[1:], "-5"+power[1:], "-6"+power[2:]
	for _, c := range []struct {
		equality, coef, mult string
		want                 api.Errno
	}{
		{"1 x0 = 0", less, "", api.ErrLong},
		{"1 x0 = 0", "-4" + longest[1:], longest, api.OK},
		{"1 x0 + -1/10 = 0", less, "", api.ErrLong},
		{"1 x0 + -1/10 = 0", "-4" + longest[1:], longest, api.OK},
		{"-1 x0 + 1/10 = 0", less, "", api.ErrLong},
		{"-1 x0 + 1/10 = 0", "-4" + longest[1:], "-" + longest, api.OK},
	} {
		s := rows(3, c.equality, more+" x0 + 1 x1 + "+bound+" >= 0", less+" x0 + -2/5 >= 0", more+" x0 + 1 x2 + "+bound+" >= 0", c.coef+" x0 + -1/10 >= 0")
		p := plainOf(t, s, nil)
		if p.steps(); p.isLong {
			t.Fatalf("a number of a pivot for %q and %s is too long", c.equality, c.coef)
		}
		got, e := Solve(s, nil)
		if e != c.want || c.want == api.OK && (got.Status != None || got.Mult[0] != c.mult) || c.want != api.OK && !same(got, Answer{}) {
			t.Errorf("Solve for %q and %s is %v, %d, want the multiplier %s, %d", c.equality, c.coef, got, e, c.mult, c.want)
		}
		if n, e := Pivots(s, nil); n != p.pivots || e != api.OK {
			t.Errorf("Pivots for %q and %s is %d, %d, want %d", c.equality, c.coef, n, e, p.pivots)
		}
	}
}

// TestLongDrawn compares drawn systems with long numbers with the plain method.
func TestLongDrawn(t *testing.T) {
	d := newDrawn(6)
	found := map[api.Errno]int{}
	proved := 0
	for range 500 {
		s := d.system(1+d.Intn(4), 1+d.Intn(4))
		for _, r := range s.Rows {
			for j := range r.Terms {
				if d.Intn(3) == 0 {
					r.Terms[j].Coef = strings.Repeat(r.Terms[j].Coef[len(r.Terms[j].Coef)-1:], 120+d.Intn(250))
				}
			}
		}
		cost := d.terms(s.Cols)
		got, e := checkPlain(t, s, cost)
		found[e]++
		if e == api.OK && isProvedOrLong(s, cost, got, &proved) {
			continue
		}
		if e == api.OK {
			t.Fatalf("the answer %v for %v and the cost %v is not proved", got, s, cost)
		}
	}
	if found[api.OK] < 100 || found[api.ErrLong] < 50 || proved < 100 {
		t.Errorf("the drawn systems have the errors %v, and %d answers are proved", found, proved)
	}
}

// isProvedOrLong reports whether certify accepts an answer, which is counted, or a number becomes too long there.
func isProvedOrLong(s api.System, cost []api.Term, a Answer, proved *int) bool {
	e := certify.CheckFarkas(s, a.Mult)
	switch a.Status {
	case Least:
		e = certify.CheckLeast(s, cost, a.Values, a.Mult)
	case Unbounded:
		e = certify.CheckRay(s, cost, a.Values, a.Ray)
	}
	if e == api.OK {
		*proved++
	}
	return e == api.OK || e == api.ErrLong
}

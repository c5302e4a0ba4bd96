package tableau

import (
	"math"
	"math/big"
	"slices"
	"strconv"
	"strings"
	"testing"

	"cellarer/api"
	"cellarer/rational"
)

func TestExamples(t *testing.T) {
	s := rows(2, "1 x0 + 1 x1 + -4 >= 0", "-1 x0 + 3 >= 0")
	x := of(t, s, terms("1", "0", "2", "1"))
	checkLines(t, "example 1", x, []int{4, 3}, "1 1 -1 0 1 4", "1 0 0 1 0 3", "1 2 0 0 0 0", "-1 -1 1 0 0 -4")
	x = pivoted(t, pivoted(t, x, 1, 0), 0, 1)
	if got := x.Values(); !slices.Equal(got, []string{"3", "1"}) || x.Cost() != "5" {
		t.Errorf("example 2 has the values %q and the cost %q", got, x.Cost())
	}
	checkLines(t, "example 2", x, []int{1, 0}, "0 1 -1 -1 1 1", "1 0 0 1 0 3", "0 0 2 1 -2 -5", "0 0 0 0 1 0")
}

// TestKinds has rows of each kind, with a Const that is less than, equal to, and greater than 0.
func TestKinds(t *testing.T) {
	for _, c := range []struct {
		line  string
		basis int
		want  []string // the equation and the last row
	}{
		{"2 x0 + -1/2 x1 + -3 >= 0", 3, []string{"2 -1/2 -1 1 3", "-2 1/2 1 0 -3"}},
		{"2 x0 + -1/2 x1 >= 0", 2, []string{"-2 1/2 1 0", "0 0 0 0"}},
		{"2 x0 + -1/2 x1 + 3 >= 0", 2, []string{"-2 1/2 1 3", "0 0 0 0"}},
		{"2 x0 + -1/2 x1 + -3 = 0", 2, []string{"2 -1/2 1 3", "-2 1/2 0 -3"}},
		{"2 x0 + -1/2 x1 = 0", 2, []string{"2 -1/2 1 0", "-2 1/2 0 0"}},
		{"2 x0 + -1/2 x1 + 3 = 0", 2, []string{"-2 1/2 1 3", "2 -1/2 0 -3"}},
		{"-7/3 >= 0", 3, []string{"0 0 -1 1 7/3", "0 0 1 0 -7/3"}},
		{"0 >= 0", 2, []string{"0 0 1 0", "0 0 0 0"}},
		{"7/3 >= 0", 2, []string{"0 0 1 7/3", "0 0 0 0"}},
		{"-7/3 = 0", 2, []string{"0 0 1 7/3", "0 0 0 -7/3"}},
		{"0 = 0", 2, []string{"0 0 1 0", "0 0 0 0"}},
		{"7/3 = 0", 2, []string{"0 0 1 7/3", "0 0 0 -7/3"}},
	} {
		x := of(t, rows(2, c.line), terms("5", "1"))
		cost := "0 5" + strings.Repeat(" 0", strings.Count(c.want[0], " ")-1)
		checkLines(t, c.line, x, []int{c.basis}, c.want[0], cost, c.want[1])
	}
	// The slack columns of all rows precede the artificial ones.
	x := of(t, rows(1, "1 x0 = 0", "1 x0 + -1 >= 0", "1 x0 + 1 >= 0", "1 x0 + 1 = 0"), nil)
	checkLines(t, "all kinds", x, []int{3, 4, 2, 5}, "1 0 0 1 0 0 0", "1 -1 0 0 1 0 1", "-1 0 1 0 0 0 1", "-1 0 0 0 0 1 1", "0 0 0 0 0 0 0", "-1 1 0 0 0 0 -2")
}

func TestCosts(t *testing.T) {
	for _, c := range []struct {
		cost []api.Term
		want string
	}{
		{nil, "0 0 0 0 0"},
		{[]api.Term{}, "0 0 0 0 0"},
		{terms("1", "0", "-1/2", "2"), "1 0 -1/2 0 0"},
		{terms("3", "2", "0", "1", "1", "0"), "1 0 3 0 0"},
		{terms("1/2", "1", "3", "0", "1/3", "1", "-3", "0", "1/6", "1"), "0 1 0 0 0"},
		{terms(longest, "2", "-1", "2"), "0 0 " + longest[1:] + "8 0 0"},
	} {
		x := of(t, rows(3, "1 x0 >= 0"), c.cost)
		checkLines(t, "a system with a cost", x, []int{3}, "-1 0 0 1 0", c.want, "0 0 0 0 0")
	}
}

// TestOf compares the tableaus of drawn systems, some without columns or rows, with the definition.
func TestOf(t *testing.T) {
	d := newDrawn(1)
	for i := range 3000 {
		cols, count := d.Intn(5), d.Intn(6)
		s, cost := d.system(cols, count), d.cost(cols, d.Intn(7))
		p, ok := plainOf(s, cost)
		if !ok {
			t.Fatalf("the system %v has too long sums", s)
		}
		check(t, "tableau "+strconv.Itoa(i), of(t, s, cost), p)
	}
}

func TestWithoutColumnsOrRows(t *testing.T) {
	checkLines(t, "the system without columns and rows", of(t, rows(0), nil), nil, "0", "0")
	checkLines(t, "a system without rows", of(t, rows(2), terms("1", "1")), nil, "0 1 0", "0 0 0")
	checkLines(t, "a system without columns", of(t, rows(0, "1 >= 0", "-1 = 0"), nil), []int{0, 1}, "1 0 1", "0 1 1", "0 0 0", "0 0 -1")
	x := of(t, rows(2), nil)
	if got := x.Values(); !slices.Equal(got, []string{"0", "0"}) || x.Cost() != "0" {
		t.Errorf("a system without rows has the values %q and the cost %q", got, x.Cost())
	}
}

func TestZeroTableau(t *testing.T) {
	var zero Tableau
	for _, x := range []Tableau{zero, of(t, rows(0), nil)} {
		if !isZero(x) {
			t.Errorf("the tableau without columns and rows has the rows %q", lines(x))
		}
		check(t, "the tableau without columns and rows", x, plain{entries: [][]*big.Rat{numbers(1), numbers(1)}})
		for _, i := range []int{-1, 0, 1} {
			for _, j := range []int{-1, 0, 1} {
				checkPivotError(t, "the tableau without columns and rows", x, i, j, api.ErrRange)
			}
		}
	}
}

func TestEntriesThatDoNotExist(t *testing.T) {
	for _, x := range []Tableau{{}, of(t, rows(2, "1 x0 + -1 >= 0"), nil)} {
		m, n := x.Size()
		for _, at := range [][2]int{{-1, 0}, {0, -1}, {m + 2, 0}, {0, n + 1}, {m + 2, n + 1}, {math.MinInt, 0}, {0, math.MinInt}, {math.MaxInt, 0}, {0, math.MaxInt}, {-1, -1}} {
			if got := x.Entry(at[0], at[1]); got != "" {
				t.Errorf("a tableau with the size %d, %d has the entry %q in row %d and column %d", m, n, got, at[0], at[1])
			}
		}
		if x.Entry(m+1, n) == "" {
			t.Errorf("a tableau with the size %d, %d has no last entry", m, n)
		}
	}
}

// large is a system whose tableau has more entries than the chapter allows, with a cost that is too long.
func large() (api.System, []api.Term) {
	return many(2, 1022, "1 x0 >= 0"), terms(longest, "0", longest, "0")
}

func TestErrorsOfOf(t *testing.T) {
	good := rows(2, "1 x0 + -1 >= 0")
	for _, s := range []api.System{
		{Cols: -1}, {Cols: api.MaxCols + 1}, {Cols: 1, Rows: make([]api.Row, api.MaxRows+1)}, {Cols: 1, Rows: []api.Row{{}}},
		{Cols: 1, Rows: []api.Row{{Const: "2/4"}}}, {Cols: 1, Rows: []api.Row{{Const: "0", Terms: terms("1", "1")}}},
		{Cols: 1, Rows: []api.Row{{Const: "0", Terms: terms("0", "0")}}}, {Cols: 2, Rows: []api.Row{{Const: "0", Terms: terms("1", "1", "1", "0")}}},
	} {
		checkOfError(t, "a wrong system", s, nil, api.ErrForm)
		checkOfError(t, "a wrong system and a column too many", s, terms("1", "7"), api.ErrForm)
	}
	for _, coef := range []string{"", "-", "-0", "+1", "01", "2/4", "1/1", "1/0", "x", " 1", "1.5", tooLong, "1/" + tooLong} {
		checkOfError(t, "the coefficient "+coef, good, terms(coef, "0"), api.ErrForm)
		checkOfError(t, "a column too many before the coefficient "+coef, good, terms("1", "2", coef, "0"), api.ErrForm)
		s, _ := large()
		checkOfError(t, "a large system and the coefficient "+coef, s, terms(coef, "0"), api.ErrForm)
	}
	for _, col := range []int{-1, 2, 3, api.MaxCols, math.MinInt, math.MaxInt} {
		cost := []api.Term{{Col: 0, Coef: longest}, {Col: 0, Coef: longest}, {Col: col, Coef: "0"}}
		checkOfError(t, "column "+strconv.Itoa(col), good, cost, api.ErrRange)
		s, _ := large()
		checkOfError(t, "a large system and column "+strconv.Itoa(col), s, cost, api.ErrRange)
	}
	checkOfError(t, "a column of a system without columns", rows(0), terms("0", "0"), api.ErrRange)
	s, cost := large()
	checkOfError(t, "a large system and a long cost", s, cost, api.ErrMany)
	checkOfError(t, "a long cost", good, cost, api.ErrLong)
}

// TestMostEntries has tableaus with as many entries as there may be, and with one row or column more.
func TestMostEntries(t *testing.T) {
	for _, c := range []struct {
		cols, count int
		line        string
		want        api.Errno
	}{
		{1, 1022, "1 >= 0", api.OK}, {2, 1022, "1 >= 0", api.ErrMany}, {1, 1023, "1 >= 0", api.ErrMany},
		{1, 1022, "1 = 0", api.OK}, {2, 1022, "-1 = 0", api.ErrMany}, {1, 1023, "0 = 0", api.ErrMany},
		{1537, 510, "1 x1536 >= 0", api.OK}, {1538, 510, "1 x1536 >= 0", api.ErrMany},
		{1027, 510, "-1 >= 0", api.OK}, {1028, 510, "-1 >= 0", api.ErrMany},
		{api.MaxCols, 422, "1 x2047 >= 0", api.OK}, {api.MaxCols, 423, "1 x2047 >= 0", api.ErrMany},
		{222, 917, "1 >= 0", api.OK}, {223, 917, "1 >= 0", api.ErrMany},
		{0, 1022, "1 >= 0", api.OK}, {0, 1023, "1 >= 0", api.ErrMany}, {0, api.MaxRows, "1 >= 0", api.ErrMany}, {api.MaxCols, api.MaxRows, "-1 >= 0", api.ErrMany},
	} {
		s := many(c.cols, c.count, c.line)
		what := strconv.Itoa(c.count) + " rows " + c.line + " with " + strconv.Itoa(c.cols) + " columns"
		checkOfError(t, what, s, nil, c.want)
		if x, e := Of(s, nil); e == api.OK {
			if m, n := x.Size(); (m+2)*(n+1) > maxEntries || m != c.count {
				t.Errorf("%s have a tableau with the size %d, %d", what, m, n)
			}
		}
	}
}

// TestLongSums has sums of MaxDigits digits, and of one more.
func TestLongSums(t *testing.T) {
	almost := longest[1:] + "8"
	for _, c := range []struct {
		what  string
		lines []string
		want  api.Errno
	}{
		{"coefficients", []string{almost + " x0 + -1 >= 0", "1 x0 + -1 >= 0"}, api.OK},
		{"coefficients", []string{longest + " x0 + -1 >= 0", "1 x0 + -1 >= 0"}, api.ErrLong},
		{"negative coefficients", []string{"-" + longest + " x0 = 0", "-1 x0 = 0"}, api.ErrLong},
		{"coefficients of equalities of both kinds", []string{"-" + longest + " x0 + 1 = 0", "1 x0 = 0"}, api.ErrLong},
		{"coefficients that are subtracted", []string{"-" + longest + " x0 + 1 = 0", "-1 x0 = 0"}, api.OK},
		{"rows of the third kind", []string{longest + " x0 >= 0", longest + " x0 + 1 >= 0", longest + " x0 + -1 >= 0"}, api.OK},
		{"a row of the third kind between others", []string{longest + " x0 + -1 >= 0", "1 x0 >= 0", "-1 x0 + -1 >= 0"}, api.OK},
		{"right-hand sides", []string{"-" + almost + " >= 0", "1 = 0"}, api.OK},
		{"right-hand sides", []string{"-" + longest + " >= 0", "1 = 0"}, api.ErrLong},
		{"right-hand sides of the third kind", []string{"-" + longest + " >= 0", "1 >= 0", longest + " >= 0"}, api.OK},
		{"a partial sum", []string{longest + " x0 = 0", "1 x0 = 0", "-1 x0 = 0"}, api.ErrLong},
		{"partial sums in another order", []string{longest + " x0 = 0", "-1 x0 = 0", "1 x0 = 0"}, api.OK},
		{"denominators", []string{"1/" + longest + " x0 = 0", "1/3 x0 = 0"}, api.OK},
		{"denominators", []string{"1/" + longest + " x0 = 0", "1/2 x0 = 0"}, api.ErrLong},
		{"columns apart", []string{longest + " x0 = 0", longest + " x1 = 0", longest + " x2 + -1 >= 0"}, api.OK},
	} {
		s := rows(3, c.lines...)
		checkOfError(t, c.what, s, nil, c.want)
		p, ok := plainOf(s, nil)
		if ok != (c.want == api.OK) {
			t.Errorf("the sums of %s are not as this test says", c.what)
		}
		if ok {
			check(t, c.what, of(t, s, nil), p)
		}
	}
	s := rows(2, "1 x0 + -1 >= 0")
	checkOfError(t, "a cost with MaxDigits digits", s, terms(almost, "1", "1", "1"), api.OK)
	checkOfError(t, "a cost with one digit more", s, terms(longest, "1", "1", "1"), api.ErrLong)
	checkOfError(t, "a cost with a partial sum of one digit more", s, terms(longest, "1", "1", "1", "-1", "1"), api.ErrLong)
	checkOfError(t, "a cost with that sum in another order", s, terms(longest, "1", "-1", "1", "1", "1"), api.OK)
}

// TestPivot compares drawn pivots with the definition, and checks that the tableaus before do not change and that the pivots can be undone.
func TestPivot(t *testing.T) {
	d := newDrawn(2)
	made := 0
	for i := range 700 {
		cols, count := d.Intn(5), d.Intn(6)
		s, cost := d.system(cols, count), d.cost(cols, d.Intn(7))
		x := of(t, s, cost)
		p, _ := plainOf(s, cost)
		for range 8 {
			row, col := d.pivot(x)
			if row < 0 {
				break
			}
			what := "tableau " + strconv.Itoa(i) + " after a pivot"
			y := pivoted(t, x, row, col)
			q, _ := p.pivot(row, col)
			check(t, what, y, q)
			check(t, "the tableau before", x, p)
			check(t, "the tableau after the pivot back", pivoted(t, y, row, p.basis[row]), p)
			checkConsequences(t, s, cost, y)
			x, p = y, q
			made++
		}
	}
	if made < 2000 {
		t.Errorf("only %d pivots were made", made)
	}
}

// checkConsequences checks what holds in every tableau of a system and a cost.
func checkConsequences(t *testing.T, s api.System, cost []api.Term, x Tableau) {
	t.Helper()
	first, _ := plainOf(s, cost)
	m, n := x.Size()
	values := numbers(n)
	for i, col := range x.Basis() {
		values[col] = number(x.Entry(i, n))
		for r := range m + 2 {
			if want := map[bool]string{true: "1", false: "0"}[r == i]; x.Entry(r, col) != want {
				t.Fatalf("the basic column %d has the entry %q in row %d", col, x.Entry(r, col), r)
			}
		}
	}
	for i, equation := range first.entries[:m] {
		if sumOf(equation, values).Cmp(equation[n]) != 0 {
			t.Fatalf("the basic values do not satisfy equation %d of %v", i, s)
		}
	}
	if got, want := x.Cost(), sumOf(first.entries[m], values).RatString(); got != want {
		t.Fatalf("the cost is %q, and %q for the basic values", got, want)
	}
	artificial := s.Cols
	for _, r := range s.Rows {
		if !r.Eq {
			artificial++
		}
	}
	total := new(big.Rat)
	for _, v := range values[artificial:] {
		total.Add(total, v)
	}
	if got := rational.Neg(x.Entry(m+1, n)); got != total.RatString() {
		t.Fatalf("the opposite of the last entry is %q, and the sum of the artificial columns %v", got, total)
	}
}

// sumOf returns the sum of the coefficients of a row times the values of the columns.
func sumOf(row, values []*big.Rat) *big.Rat {
	total := new(big.Rat)
	for col, v := range values {
		total.Add(total, new(big.Rat).Mul(row[col], v))
	}
	return total
}

func TestErrorsOfPivot(t *testing.T) {
	x := of(t, rows(2, "1 x0 + -1 >= 0", "1 x1 + 1 >= 0"), terms("1", "0"))
	m, n := x.Size()
	for _, row := range []int{-1, m, m + 1, m + 2, math.MinInt, math.MaxInt} {
		for _, col := range []int{-1, 0, n - 1, n, n + 1} {
			checkPivotError(t, "a tableau", x, row, col, api.ErrRange)
		}
	}
	for _, col := range []int{-1, n, n + 1, math.MinInt, math.MaxInt} {
		for row := range m {
			checkPivotError(t, "a tableau", x, row, col, api.ErrRange)
		}
	}
	for row := range m {
		for col := range n {
			want := api.OK
			if x.Entry(row, col) == "0" {
				want = api.ErrZero
			}
			checkPivotError(t, "a tableau", x, row, col, want)
		}
	}
	// An entry 0 counts before numbers that would be too long.
	x = of(t, rows(2, longest+" x0 + "+longest+" >= 0", longest+" x0 >= 0"), terms(longest, "0"))
	checkPivotError(t, "a tableau with long numbers", x, 0, 1, api.ErrZero)
}

// TestPivotOfBasicColumn has a pivot at an entry 1 that changes nothing.
func TestPivotOfBasicColumn(t *testing.T) {
	s, cost := rows(2, "1 x0 + 2 x1 + -1 >= 0", "1 x1 + 1 >= 0"), terms("1", "0", "-1", "1")
	x := of(t, s, cost)
	p, _ := plainOf(s, cost)
	for row, col := range x.Basis() {
		check(t, "a tableau after a pivot at a basic column", pivoted(t, x, row, col), p)
	}
}

// TestLongPivots has quotients, products and differences of MaxDigits digits, and of one more.
func TestLongPivots(t *testing.T) {
	half, more := "1"+strings.Repeat("0", api.MaxDigits/2-1), "1"+strings.Repeat("0", api.MaxDigits/2)
	almost := longest[1:] + "8"
	for _, c := range []struct {
		what  string
		lines []string
		cost  []api.Term
		want  api.Errno
	}{
		{"a quotient", []string{"1/" + half + " x0 + " + more + " x1 >= 0"}, nil, api.OK},
		{"a quotient", []string{"1/" + more + " x0 + " + more + " x1 >= 0"}, nil, api.ErrLong},
		{"a quotient on the right-hand side", []string{"1/" + more + " x0 + " + more + " >= 0"}, nil, api.ErrLong},
		{"a denominator of a quotient", []string{more + " x0 + 1/" + half + " x1 >= 0"}, nil, api.OK},
		{"a denominator of a quotient", []string{more + " x0 + 1/" + more + " x1 >= 0"}, nil, api.ErrLong},
		{"a product", []string{"1 x0 + " + half + " x1 >= 0", more + " x0 >= 0"}, nil, api.OK},
		{"a product", []string{"1 x0 + " + more + " x1 >= 0", more + " x0 >= 0"}, nil, api.ErrLong},
		{"a product whose difference is short", []string{"1 x0 + " + more + " x1 >= 0", more + " x0 + " + longest + " x1 >= 0"}, nil, api.ErrLong},
		{"a product on the right-hand side", []string{"1 x0 + " + more + " >= 0", more + " x0 >= 0"}, nil, api.ErrLong},
		{"a product in the row of the cost", []string{"1 x0 + " + more + " x1 >= 0"}, terms(more, "0"), api.ErrLong},
		{"a product in the row of the cost", []string{"1 x0 + " + half + " x1 >= 0"}, terms(more, "0"), api.OK},
		{"a difference", []string{"1 x0 + 1 x1 >= 0", "1 x0 + -" + almost + " x1 >= 0"}, nil, api.OK},
		{"a difference", []string{"1 x0 + 1 x1 >= 0", "1 x0 + -" + longest + " x1 >= 0"}, nil, api.ErrLong},
		{"a difference in the row of the cost", []string{"1 x0 + 1 x1 >= 0"}, terms("1", "0", "-"+almost, "1"), api.OK},
		{"a difference in the row of the cost", []string{"1 x0 + 1 x1 >= 0"}, terms("1", "0", "-"+longest, "1"), api.ErrLong},
		{"a difference in the last row", []string{"2 x0 + 1 x1 >= 0", "2 x0 + -" + almost + " x1 + -1 >= 0"}, nil, api.OK},
		{"a product in the last row", []string{"-1 x0 + " + more + " x1 >= 0", half + " x0 + -1 >= 0", half + "0 x0 + -1 >= 0"}, nil, api.ErrLong},
		{"long numbers in a row without the column", []string{"1 x0 + " + longest + " x1 >= 0", longest + " x1 >= 0"}, terms(longest, "1"), api.OK},
	} {
		s := rows(2, c.lines...)
		x := of(t, s, c.cost)
		p, _ := plainOf(s, c.cost)
		q, ok := p.pivot(0, 0)
		if ok != (c.want == api.OK) {
			t.Errorf("%s: the numbers of %q are not as this test says", c.what, c.lines)
		}
		checkPivotError(t, c.what, x, 0, 0, c.want)
		if c.want == api.OK && ok {
			check(t, c.what, pivoted(t, x, 0, 0), q)
		}
		check(t, "the tableau before: "+c.what, x, p)
	}
}

// TestLongDrawnPivots compares pivots of systems with long numbers with the definition.
func TestLongDrawnPivots(t *testing.T) {
	d := newDrawn(3)
	counts := map[bool]int{}
	for range 600 {
		s := d.system(3, 3)
		for _, r := range s.Rows {
			for j := range r.Terms {
				if d.Intn(2) == 0 {
					r.Terms[j].Coef = strings.Repeat(strconv.Itoa(1+d.Intn(9)), 120+d.Intn(120))
				}
			}
		}
		x := of(t, s, nil)
		p, _ := plainOf(s, nil)
		for range 4 {
			row, col := d.pivot(x)
			if row < 0 {
				break
			}
			q, ok := p.pivot(row, col)
			counts[ok]++
			if !ok {
				checkPivotError(t, "a tableau with long numbers", x, row, col, api.ErrLong)
				break
			}
			x, p = pivoted(t, x, row, col), q
			check(t, "a tableau with long numbers", x, p)
		}
	}
	if counts[true] < 100 || counts[false] < 100 {
		t.Errorf("%d pivots have short numbers, and %d long ones", counts[true], counts[false])
	}
}

// TestMemory checks that a tableau shares no memory with what it was made of, and with its results.
func TestMemory(t *testing.T) {
	s, cost := rows(2, "1 x0 + 2 x1 + -4 >= 0", "-1 x0 + 3 = 0"), terms("2", "1", "1", "0", "3", "1")
	p, _ := plainOf(s, cost)
	x := of(t, s, cost)
	if !slices.Equal(cost, terms("2", "1", "1", "0", "3", "1")) {
		t.Errorf("the cost was changed to %v", cost)
	}
	y := pivoted(t, x, 0, 1)
	q, _ := p.pivot(0, 1)
	for i := range cost {
		cost[i] = api.Term{Col: 7, Coef: "7"}
	}
	for i := range s.Rows {
		for j := range s.Rows[i].Terms {
			s.Rows[i].Terms[j] = api.Term{Col: 7, Coef: "7"}
		}
		s.Rows[i] = api.Row{Const: "7"}
	}
	for _, z := range []Tableau{x, y} {
		basis, values := z.Basis(), z.Values()
		for i := range basis {
			basis[i] = 7
		}
		for i := range values {
			values[i] = "7"
		}
	}
	check(t, "a tableau", x, p)
	check(t, "a tableau after a pivot", y, q)
}

// TestSpareCapacity checks that the memory behind the arguments is not written to.
func TestSpareCapacity(t *testing.T) {
	s := rows(2, "1 x0 + 2 x1 + -4 >= 0", "-1 x0 + 3 = 0")
	spare := terms("2", "1", "1", "0", "9", "9")
	kept := slices.Clone(spare)
	rowsBehind := append(slices.Clone(s.Rows), api.Row{Const: "9"})
	termsBehind := append(slices.Clone(s.Rows[1].Terms), api.Term{Col: 9, Coef: "9"})
	rowsBehind[1].Terms = termsBehind[:1]
	s.Rows = rowsBehind[:2]
	pivoted(t, of(t, s, spare[:2]), 0, 0)
	if !slices.Equal(spare, kept) || rowsBehind[2].Const != "9" || termsBehind[1].Col != 9 {
		t.Errorf("the memory behind the arguments is %v, %v, %v", spare, rowsBehind, termsBehind)
	}
}

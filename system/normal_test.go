package system

import (
	"cmp"
	"math/big"
	"slices"
	"strings"
	"testing"

	"cellarer/api"
)

// plainRow is a row with the coefficients of all columns, and Const at the end.
type plainRow struct {
	numbers []*big.Int
	eq      bool
}

// plainNormalRow returns the normal form of a row with terms.
func plainNormalRow(r api.Row, cols int) plainRow {
	numbers := make([]*big.Rat, cols+1)
	for col := range numbers {
		numbers[col] = new(big.Rat)
	}
	for _, t := range r.Terms {
		numbers[t.Col].Set(number(t.Coef))
	}
	numbers[cols].Set(number(r.Const))
	product := big.NewInt(1)
	for _, x := range numbers {
		product.Mul(product, x.Denom())
	}
	out := plainRow{make([]*big.Int, cols+1), r.Eq}
	divisor := new(big.Int)
	for i, x := range numbers {
		out.numbers[i] = new(big.Rat).Mul(x, new(big.Rat).SetInt(product)).Num()
		divisor.GCD(nil, nil, divisor, new(big.Int).Abs(out.numbers[i]))
	}
	if r.Eq && number(r.Terms[0].Coef).Sign() < 0 {
		divisor.Neg(divisor)
	}
	for _, n := range out.numbers {
		n.Quo(n, divisor)
	}
	return out
}

func (p plainRow) row() api.Row {
	last := len(p.numbers) - 1
	r := api.Row{Const: p.numbers[last].String(), Eq: p.eq}
	for col, n := range p.numbers[:last] {
		if n.Sign() != 0 {
			r.Terms = append(r.Terms, api.Term{Col: col, Coef: n.String()})
		}
	}
	return r
}

// before reports whether a row precedes another one.
func before(a, b api.Row) bool {
	if a.Eq != b.Eq {
		return a.Eq
	}
	for i := range min(len(a.Terms), len(b.Terms)) {
		if s, t := a.Terms[i], b.Terms[i]; s != t {
			return s.Col < t.Col || s.Col == t.Col && number(s.Coef).Cmp(number(t.Coef)) < 0
		}
	}
	if len(a.Terms) != len(b.Terms) {
		return len(a.Terms) < len(b.Terms)
	}
	return number(a.Const).Cmp(number(b.Const)) < 0
}

// plainNormal returns the normal form of a system: each new row is put where it belongs.
func plainNormal(s api.System) api.System {
	out := api.System{Cols: s.Cols}
	for _, r := range s.Rows {
		if len(r.Terms) == 0 {
			if sign := number(r.Const).Sign(); sign < 0 || r.Eq && sign > 0 {
				return rows(s.Cols, "-1 >= 0")
			}
			continue
		}
		n := plainNormalRow(r, s.Cols).row()
		at := 0
		for at < len(out.Rows) && before(out.Rows[at], n) {
			at++
		}
		if at == len(out.Rows) || before(n, out.Rows[at]) {
			out.Rows = slices.Insert(out.Rows, at, n)
		}
	}
	return out
}

func TestNormal(t *testing.T) {
	for _, c := range []struct{ s, want api.System }{
		{rows(2, "1/2 x0 + -1/3 x1 >= 0", "-2 x0 + 4 = 0"), rows(2, "1 x0 + -2 = 0", "3 x0 + -2 x1 >= 0")},
		{api.System{}, api.System{}},
		{api.System{Cols: api.MaxCols}, api.System{Cols: api.MaxCols}},
		// Rows without terms.
		{rows(0, "0 >= 0", "0 = 0", "5/3 >= 0"), api.System{}},
		{rows(2, "1 x0 >= 0", "0 = 0", "5/3 >= 0"), rows(2, "1 x0 >= 0")},
		{rows(0, "-5/3 >= 0 # 7"), rows(0, "-1 >= 0")},
		{rows(0, "5/3 = 0 # 7"), rows(0, "-1 >= 0")},
		{rows(2, "1 x0 >= 0", "-5/3 = 0", "1 x1 >= 0", "1 >= 0", "-1 >= 0"), rows(2, "-1 >= 0")},
		// Multiples.
		{rows(1, "-1/2 x0 >= 0"), rows(1, "-1 x0 >= 0")},
		{rows(1, "-1/2 x0 = 0"), rows(1, "1 x0 = 0")},
		{rows(2, "-1 x0 + 1 x1 + -1 = 0"), rows(2, "1 x0 + -1 x1 + 1 = 0")},
		{rows(2, "6 x0 + -4 x1 + 1 >= 0"), rows(2, "6 x0 + -4 x1 + 1 >= 0")},
		{rows(2, "6 x0 + -4 x1 + 8 >= 0"), rows(2, "3 x0 + -2 x1 + 4 >= 0")},
		{rows(2, "6 x0 + -4 x1 + 1/2 >= 0"), rows(2, "12 x0 + -8 x1 + 1 >= 0")},
		{rows(2, "2/3 x0 + -4/9 x1 + 8/15 >= 0"), rows(2, "15 x0 + -10 x1 + 12 >= 0")},
		// Repeated rows, multiples of each other, with other Marks.
		{rows(1, "1 x0 + -1 >= 0 # 1", "2 x0 + -2 >= 0 # 2", "1/2 x0 + -1/2 >= 0", "1 x0 + -1 >= 0 # 1"), rows(1, "1 x0 + -1 >= 0")},
		{rows(1, "1 x0 + -1 = 0", "-2 x0 + 2 = 0", "1/2 x0 + -1/2 = 0"), rows(1, "1 x0 + -1 = 0")},
		{rows(1, "1 x0 + -1 >= 0", "-1 x0 + 1 >= 0", "1 x0 + -1 = 0"), rows(1, "1 x0 + -1 = 0", "-1 x0 + 1 >= 0", "1 x0 + -1 >= 0")},
		{many(1, api.MaxRows, "1 x0 >= 0"), rows(1, "1 x0 >= 0")},
	} {
		got, e := Normal(c.s)
		check(t, "Normal", got, e, c.want)
	}
}

// TestNormalOrder checks each criterion of the order, with those after it against it.
func TestNormalOrder(t *testing.T) {
	sorted := rows(12,
		"1 x1 + 5 x2 = 0",
		"1 x11 + 1 = 0",
		"-10 x0 + 1 x1 + 7 >= 0",
		"-9 x0 + 1 x1 + 1 >= 0",
		"2 x0 + 5 >= 0",
		"2 x0 + 7 >= 0",
		"2 x0 + -5 x1 + 1 >= 0",
		"2 x0 + 9 x2 + -9 >= 0",
		"2 x0 + 10 x2 + -11 >= 0",
		"2 x0 + 10 x2 + -9 >= 0",
		"2 x0 + -9 x10 + 1 >= 0",
		"10 x0 + -13 >= 0",
		"10 x0 + -1 x11 + -13 >= 0",
		"1 x1 + -100 >= 0",
		"1 x1 + -12 >= 0",
		"1 x1 + 7 >= 0",
		"-5 x2 + -100 x3 + -101 >= 0",
	)
	d := newDrawn(3)
	for range 50 {
		s := rows(12)
		for _, i := range d.Perm(len(sorted.Rows)) {
			s.Rows = append(s.Rows, sorted.Rows[i])
		}
		got, e := Normal(s)
		check(t, "Normal", got, e, sorted)
	}
}

func TestNormalOfDrawnSystems(t *testing.T) {
	d := newDrawn(4)
	for range 3000 {
		s := d.system(d.Intn(5), d.Intn(8))
		got, e := Normal(s)
		check(t, "Normal", got, e, plainNormal(s))
	}
}

// TestNormalLimits checks numbers with exactly MaxDigits digits, and with one more.
func TestNormalLimits(t *testing.T) {
	// The powers of 10 and 10^n - 1 have no common divisor.
	power := tooLong[:api.MaxDigits]
	for _, c := range []struct{ s, want api.System }{
		{rows(1, longest+" x0 + "+power+" >= 0"), rows(1, longest+" x0 + "+power+" >= 0")},
		{rows(1, "1/"+longest+" x0 + 1 >= 0"), rows(1, "1 x0 + "+longest+" >= 0")},
		{rows(2, "1/"+longest+" x0 + -1/"+power+" x1 >= 0"), rows(2, power+" x0 + -"+longest+" x1 >= 0")},
		{rows(2, "7/"+longest+" x0 + 7/"+power+" x1 >= 0"), rows(2, power+" x0 + "+longest+" x1 >= 0")},
		{rows(2, "2/"+longest+" x0 + 1/"+power+" x1 >= 0"), rows(2, "2"+power[1:]+" x0 + "+longest+" x1 >= 0")},
		{rows(2, longest+"/"+power+" x0 + "+longest+" >= 0"), rows(2, "1 x0 + "+power+" >= 0")},
		{rows(2, "-"+longest+"/"+power+" x0 + -"+longest+" x1 = 0"), rows(2, "1 x0 + "+power+" x1 = 0")},
		// Rows without terms have no normal form.
		{rows(1, longest+"/"+power+" >= 0"), rows(1)},
		{rows(1, "-"+longest+"/"+power+" >= 0"), rows(1, "-1 >= 0")},
	} {
		got, e := Normal(c.s)
		check(t, "Normal", got, e, c.want)
	}
	for _, s := range []api.System{
		rows(1, "1/"+longest+" x0 + 2 >= 0"),
		rows(1, "1 x0 + 1 >= 0", "2 x0 + 1/"+longest+" >= 0"),
		rows(1, "-1/2 x0 + "+longest+" = 0"),
		rows(2, "20/"+longest+" x0 + 1/"+power+" x1 >= 0"),
		rows(2, "1/"+longest+" x0 + 3/"+power+" x1 >= 0"),
		rows(3, "1/"+longest+" x0 + 1/"+power+" x1 + 1/7 x2 >= 0"),
		rows(2, "1/"+longest+" x0 + 1/"+power+" x1 + 1 = 0"),
		// A row that cannot be satisfied makes no difference, wherever it is.
		rows(1, "-1 >= 0", "1/"+longest+" x0 + 2 >= 0"),
		rows(1, "1/"+longest+" x0 + 2 >= 0", "-1 >= 0"),
	} {
		got, e := Normal(s)
		checkError(t, "Normal of a system with numbers that become too long", got, e, api.ErrLong)
	}
}

// TestNormalOfLongDenominators checks rows whose denominators have a very long common multiple.
func TestNormalOfLongDenominators(t *testing.T) {
	s := api.System{Cols: api.MaxCols, Rows: []api.Row{{Const: "0"}}}
	n, _ := new(big.Int).SetString(longest, 10)
	for col := range api.MaxCols {
		s.Rows[0].Terms = append(s.Rows[0].Terms, api.Term{Col: col, Coef: "1/" + new(big.Int).Sub(n, big.NewInt(int64(col))).String()})
	}
	for range 200 {
		s.Rows = append(s.Rows, s.Rows[0])
	}
	got, e := Normal(s)
	checkError(t, "Normal of a system with denominators that are too long", got, e, api.ErrLong)
}

// TestNormalIsStable checks that the normal form does not depend on how a system is written.
func TestNormalIsStable(t *testing.T) {
	d := newDrawn(5)
	for range 500 {
		s := d.system(d.Intn(4), d.Intn(6))
		want, _ := Normal(s)
		got, e := Normal(want)
		check(t, "Normal of a normal form", got, e, want)
		changed := api.System{Cols: s.Cols}
		for _, i := range slices.Concat(d.Perm(len(s.Rows)), d.Perm(len(s.Rows))) {
			changed.Rows = append(changed.Rows, multiple(s.Rows[i], big.NewRat(int64(1+d.Intn(9)), int64(1+d.Intn(9)))))
		}
		got, e = Normal(changed)
		check(t, "Normal of the same rows, written in another way", got, e, want)
	}
}

func multiple(r api.Row, by *big.Rat) api.Row {
	times := func(s string) string { return new(big.Rat).Mul(number(s), by).RatString() }
	r.Const, r.Terms, r.Mark = times(r.Const), slices.Clone(r.Terms), r.Mark+1
	for i := range r.Terms {
		r.Terms[i].Coef = times(r.Terms[i].Coef)
	}
	return r
}

// TestNormalHolds checks that the same values hold for a system and for its normal form.
func TestNormalHolds(t *testing.T) {
	d := newDrawn(6)
	held := 0
	for range 5000 {
		s := d.system(2, d.Intn(4))
		normal, _ := Normal(s)
		values := d.values(2)
		want := plainHolds(s, values)
		if got, e := Holds(normal, values); got != want || e != api.OK {
			t.Fatalf("%q hold for the normal form %v of %v: %v, %d", values, normal, s, got, e)
		}
		if want {
			held++
		}
	}
	if held < 100 {
		t.Errorf("only %d of the drawn values hold", held)
	}
}

// TestNormalOfManyRows checks a system with MaxRows different rows.
func TestNormalOfManyRows(t *testing.T) {
	d := newDrawn(7)
	s := api.System{Cols: api.MaxCols}
	for i := range api.MaxRows {
		col := d.Intn(api.MaxCols - 1)
		s.Rows = append(s.Rows, api.Row{Const: big.NewInt(int64(i)).String(), Terms: []api.Term{{Col: col, Coef: "2"}, {Col: col + 1, Coef: "-1"}}})
	}
	want := api.System{Cols: api.MaxCols, Rows: slices.Clone(s.Rows)}
	slices.SortFunc(want.Rows, func(a, b api.Row) int {
		return cmp.Or(cmp.Compare(a.Terms[0].Col, b.Terms[0].Col), cmp.Compare(len(a.Const), len(b.Const)), strings.Compare(a.Const, b.Const))
	})
	got, e := Normal(s)
	check(t, "Normal", got, e, want)
}

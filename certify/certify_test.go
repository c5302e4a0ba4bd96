package certify

import (
	"math/big"
	"slices"
	"testing"

	"cellarer/api"
	"cellarer/elim"
	"cellarer/linear"
	"cellarer/system"
)

func TestExamples(t *testing.T) {
	s := rows(1, "1 x0 + -3 >= 0", "-1 x0 + 2 >= 0")
	checkCombine(t, s, list("1 1"), linear.Form{Const: "-1"}, api.OK)
	checkFarkas(t, s, list("1 1"), api.OK)
	s = rows(2, "1 x0 + 1 x1 + -2 >= 0")
	checkLeast(t, s, terms("2 x0 + 3 x1"), list("2 0"), list("2"), api.OK)
	checkRay(t, s, terms("-x1"), list("2 0"), list("0 1"), api.OK)
}

func TestCombine(t *testing.T) {
	s := rows(3, "1 x0 + -1/2 x2 + -3 >= 0", "-1 x0 + 2 = 0", "5 >= 0")
	for _, c := range []struct{ mult, terms, constant string }{
		{"0 0 0", "0", "0"}, {"1 0 0", "x0 - 1/2 x2", "-3"}, {"1 1 0", "-1/2 x2", "-1"}, {"-1 -2 0", "x0 + 1/2 x2", "-1"},
		{"0 0 1/5", "0", "1"}, {"2 2 2/5", "-x2", "0"}, {"-2/3 0 -2/5", "-2/3 x0 + 1/3 x2", "0"},
	} {
		checkCombine(t, s, list(c.mult), linear.Form{Terms: terms(c.terms), Const: c.constant}, api.OK)
	}
	d := newDrawn(1)
	for range 3000 {
		s := d.system(d.Intn(5), d.Intn(6))
		mult := d.list(len(s.Rows), d.number)
		sums, ok := plainCombination(s, mult)
		if !ok {
			t.Fatalf("the numbers of %v and %q are too long", s, mult)
		}
		checkCombine(t, s, mult, formOf(sums), api.OK)
	}
}

func TestWithoutColumnsOrRows(t *testing.T) {
	none, noRows, noCols := rows(0), rows(2), rows(0, "-1 >= 0", "2 = 0")
	checkCombine(t, none, nil, linear.Form{Const: "0"}, api.OK)
	checkCombine(t, noRows, nil, linear.Form{Const: "0"}, api.OK)
	checkCombine(t, noCols, list("1/2 -1"), linear.Form{Const: "-5/2"}, api.OK)
	checkFarkas(t, none, nil, api.ErrProof)
	checkFarkas(t, noRows, []string{}, api.ErrProof)
	checkFarkas(t, noCols, list("1 0"), api.OK)
	checkFarkas(t, noCols, list("0 -1"), api.OK)
	checkFarkas(t, noCols, list("0 1"), api.ErrProof)
	checkLeast(t, none, nil, nil, nil, api.OK)
	checkLeast(t, noRows, terms("x1"), list("5 0"), nil, api.OK)
	checkLeast(t, noRows, terms("x1"), list("5 1"), nil, api.ErrProof)
	checkLeast(t, noRows, terms("-x1"), list("0 0"), nil, api.ErrProof)
	checkLeast(t, noCols, nil, nil, list("0 0"), api.ErrBound)
	checkRay(t, none, nil, nil, nil, api.ErrProof)
	checkRay(t, noRows, terms("-x1"), list("0 0"), list("0 1"), api.OK)
	checkRay(t, noCols, nil, nil, nil, api.ErrBound)
}

func TestFarkas(t *testing.T) {
	s := rows(2, "1 x0 + -3 >= 0", "-1 x0 + 2 >= 0", "-1 x0 + 1 x1 + -1/2 = 0", "1 x0 + 2 x1 + 3 = 0", "-2 >= 0")
	for _, c := range []struct {
		mult string
		want api.Errno
	}{
		{"1 1 0 0 0", api.OK},
		{"1/7 1/7 0 0 0", api.OK},
		{"1 2 0 0 0", api.ErrProof},    // the Const 1
		{"2 3 0 0 0", api.ErrProof},    // the Const 0
		{"1 5/4 0 0 0", api.OK},        // the combination -1/4 x0 - 1/2
		{"5/4 1 0 0 0", api.ErrProof},  // the combination 1/4 x0 - 7/4
		{"-1 -1 0 0 0", api.ErrProof},  // negative multipliers, and the Const 1
		{"0 0 0 0 0", api.ErrProof},    // the Const 0
		{"0 0 0 0 1", api.OK},          // a row without terms
		{"0 0 0 0 -1", api.ErrProof},   // a negative multiplier
		{"0 0 0 -1 0", api.OK},         // a negative multiplier of an equality
		{"0 0 0 1 0", api.ErrProof},    // positive coefficients
		{"-1 0 0 -1 0", api.ErrProof},  // a negative multiplier that would not be needed
		{"0 -1 0 -10 0", api.ErrProof}, // the combination -9 x0 - 20 x1 - 32
		{"0 0 1 0 0", api.ErrProof},    // a coefficient of the last column
		{"0 0 -2 -1 0", api.ErrProof},  // a coefficient of the first column
		{"1 0 -2 -3 0", api.OK},        // equalities with negative multipliers
	} {
		checkFarkas(t, s, list(c.mult), c.want)
	}
}

func TestLeast(t *testing.T) {
	s := rows(2, "1 x0 + 1 x1 + -2 >= 0", "-1 x0 + 3 >= 0", "1 x0 + -1 x1 + -1 = 0")
	for _, c := range []struct {
		cost, values, mult string
		want               api.Errno
	}{
		{"x0 + x1", "3/2 1/2", "1 0 0", api.OK},
		{"2 x0", "3/2 1/2", "1 0 1", api.OK},
		{"2 x1", "3/2 1/2", "1 0 -1", api.OK},
		{"0", "3/2 1/2", "0 0 0", api.OK},
		{"0", "3 2", "0 0 0", api.OK},
		{"-x0", "3 2", "0 1 0", api.OK},
		{"-x1", "3 2", "0 1 1", api.OK},
		{"x0 + x1", "3/2 1/2", "0 0 0", api.ErrProof},          // the Const 0
		{"x0 + x1", "3 2", "1 0 0", api.ErrProof},              // a greater cost
		{"x0 + x1", "3/2 1/2", "2 0 0", api.ErrProof},          // greater coefficients
		{"1/2 x0 + x1", "3/2 1/2", "1 0 0", api.ErrProof},      // one greater coefficient
		{"x0 + 1/2 x1", "3/2 1/2", "1 0 0", api.ErrProof},      // the other one
		{"-x0 + x1", "3/2 1/2", "-1/2 1/2 -1/2", api.ErrProof}, // a negative multiplier
		{"x0 + x1", "1 1", "1 0 0", api.ErrBound},              // an equality that is violated
		{"x0 + x1", "1 0", "1 0 0", api.ErrBound},              // another row
		{"x0 + x1", "4 3", "1 0 0", api.ErrBound},              // yet another row
		{"x0 + x1", "1/2 -1/2", "1 0 0", api.ErrBound},         // a negative value
	} {
		checkLeast(t, s, terms(c.cost), list(c.values), list(c.mult), c.want)
	}
	// Here a negative multiplier would prove too much: the cost has no least value.
	checkLeast(t, rows(1, "1 x0 + -2 >= 0"), terms("-x0"), list("2"), list("-1"), api.ErrProof)
}

func TestRay(t *testing.T) {
	s := rows(3, "1 x0 + -1 x1 + 2 >= 0", "1 x0 + -1 x2 = 0", "3 >= 0")
	for _, c := range []struct {
		cost, values, ray string
		want              api.Errno
	}{
		{"-x0", "0 0 0", "1 0 1", api.OK},
		{"-x0", "0 2 0", "1 1 1", api.OK},
		{"-x0", "0 2 0", "1/9 1/9 1/9", api.OK},
		{"-x1", "0 0 0", "1 0 1", api.ErrProof},       // the cost of the ray is 0
		{"x0 - 2 x1", "0 0 0", "2 1 2", api.ErrProof}, // and here as well
		{"x0", "0 0 0", "1 0 1", api.ErrProof},        // it is positive
		{"-x1", "0 0 0", "1 2 1", api.ErrProof},       // a row decreases
		{"-x0", "0 0 0", "1 0 0", api.ErrProof},       // an equality increases
		{"-x2", "0 0 0", "0 0 1", api.ErrProof},       // an equality decreases
		{"x0", "5 0 5", "-1 -1 -1", api.ErrProof},     // negative numbers
		{"-x0 + x1", "5 1 5", "0 -1 0", api.ErrProof}, // a negative number
		{"-x0", "0 0 0", "0 0 0", api.ErrProof},
		{"0", "0 0 0", "1 0 1", api.ErrProof},
		{"-x0", "0 3 0", "1 0 1", api.ErrBound},
		{"-x0", "1 0 0", "1 0 1", api.ErrBound},
		{"-x0", "0 -1 0", "1 0 1", api.ErrBound},
	} {
		checkRay(t, s, terms(c.cost), list(c.values), list(c.ray), c.want)
	}
}

// TestDrawn compares the checks of certificates, and of certificates that are disturbed at one place, with the definitions.
func TestDrawn(t *testing.T) {
	d := newDrawn(2)
	counts := map[string]map[api.Errno]int{"farkas": {}, "least": {}, "ray": {}}
	for range 4000 {
		cols, count := 1+d.Intn(4), 1+d.Intn(5)
		s, mult := d.refuted(cols, count)
		checkFarkas(t, s, mult, api.OK)
		s, _, mult, _ = d.disturbed(s, nil, mult, mult)
		counts["farkas"][plainFarkas(s, mult)]++
		checkFarkas(t, s, mult, plainFarkas(s, mult))

		s, cost, values, mult := d.least(cols, count)
		checkLeast(t, s, cost, values, mult, api.OK)
		s, cost, values, mult = d.disturbed(s, cost, values, mult)
		counts["least"][plainLeast(s, cost, values, mult)]++
		checkLeast(t, s, cost, values, mult, plainLeast(s, cost, values, mult))

		s, cost, values, ray := d.unbounded(cols, count)
		checkRay(t, s, cost, values, ray, api.OK)
		s, cost, values, ray = d.disturbed(s, cost, values, ray)
		counts["ray"][plainRay(s, cost, values, ray)]++
		checkRay(t, s, cost, values, ray, plainRay(s, cost, values, ray))
	}
	for name, count := range counts {
		if count[api.OK] < 100 || count[api.ErrProof] < 100 || name != "farkas" && count[api.ErrBound] < 100 {
			t.Errorf("the results of %s are too few: %v", name, count)
		}
	}
}

// TestConsequences checks by elimination that what is proved is true.
func TestConsequences(t *testing.T) {
	d := newDrawn(3)
	for range 300 {
		cols, count := 1+d.Intn(3), 1+d.Intn(4)
		s, _ := d.refuted(cols, count)
		if ok, e := elim.Feasible(s); ok || e != api.OK {
			t.Fatalf("the system %v has a solution: %v, %d", s, ok, e)
		}

		s, cost, values, _ := d.least(cols, count)
		least := plainValue(cost, "0", values)
		below := new(big.Rat).Sub(least, big.NewRat(1, 1000))
		for limit, want := range map[*big.Rat]bool{least: true, below: false} {
			lower := api.System{Cols: cols, Rows: append(slices.Clone(s.Rows), atMost(cost, limit))}
			if ok, e := elim.Feasible(lower); ok != want || e != api.OK {
				t.Fatalf("the system %v has solutions with the cost %v at most %v: %v, %d", s, cost, limit, ok, e)
			}
		}

		s, cost, values, ray := d.unbounded(cols, count)
		before := plainValue(cost, "0", values)
		for _, by := range []string{"1/100", "1", "1000"} {
			moved := make([]string, cols)
			for col := range moved {
				step := new(big.Rat).Mul(number(ray[col]), number(by))
				moved[col] = step.Add(step, number(values[col])).RatString()
			}
			if ok, e := system.Holds(s, moved); !ok || e != api.OK || plainValue(cost, "0", moved).Cmp(before) >= 0 {
				t.Fatalf("the values %q of %v with the cost %v do not prove that it is unbounded", moved, s, cost)
			}
		}
	}
}

// atMost returns the row that says that a cost is at most a limit.
func atMost(cost []api.Term, limit *big.Rat) api.Row {
	r := api.Row{Const: limit.RatString()}
	for _, t := range cost {
		r.Terms = withCoef(r.Terms, t.Col, new(big.Rat).Neg(number(t.Coef)))
	}
	return r
}

// TestTwoCertificates has different certificates for the same cost.
func TestTwoCertificates(t *testing.T) {
	s := rows(2, "1 x0 + 1 x1 + -2 >= 0", "2 x0 + 2 x1 + -4 >= 0")
	cost := terms("x0 + x1")
	for _, values := range []string{"2 0", "0 2", "1/3 5/3", "3 0", "2 1"} {
		for _, mult := range []string{"1 0", "0 1/2", "1/2 1/4"} {
			want := api.OK
			if plainValue(cost, "0", list(values)).Cmp(big.NewRat(2, 1)) != 0 {
				want = api.ErrProof
			}
			checkLeast(t, s, cost, list(values), list(mult), want)
		}
	}
}

// TestMemory checks that the arguments are neither changed nor shared.
func TestMemory(t *testing.T) {
	s, mult := rows(2, "1 x0 + 1 x1 + -2 >= 0", "-1 x0 + 3 >= 0"), list("1 0")
	behind := append(slices.Clone(s.Rows[0].Terms), api.Term{Col: 9, Coef: "9"})
	s.Rows[0].Terms = behind[:2]
	form, e := Combine(s, mult)
	if e != api.OK {
		t.Fatalf("Combine returns the error %d", e)
	}
	checkLeast(t, s, terms("x0 + x1"), list("2 0"), mult, api.OK)
	checkRay(t, s, terms("-x1"), list("2 0"), list("0 1"), api.OK)
	if behind[2] != (api.Term{Col: 9, Coef: "9"}) {
		t.Errorf("the memory behind the terms is %v", behind)
	}
	behind[0].Coef, mult[0] = "7", "7"
	if !same(form, linear.Form{Terms: terms("x0 + x1"), Const: "-2"}) {
		t.Errorf("the combination is changed to %v", form)
	}
	form.Terms[1].Coef = "8"
	if behind[1].Coef != "1" {
		t.Errorf("the terms of the system are changed to %v", behind)
	}
}

// TestMostRowsAndColumns has a system that is as large as systems may be.
func TestMostRowsAndColumns(t *testing.T) {
	s := api.System{Cols: api.MaxCols}
	for i := range api.MaxRows {
		s.Rows = append(s.Rows, api.Row{Terms: []api.Term{{Col: i, Coef: "1"}}, Const: "-1"})
	}
	var cost []api.Term
	for col := range s.Cols {
		cost = append(cost, api.Term{Col: col, Coef: "2"})
	}
	ones, twos := slices.Repeat(list("1"), api.MaxRows), slices.Repeat(list("2"), api.MaxRows)
	checkLeast(t, s, cost, ones, twos, api.OK)
	twos[api.MaxRows-1] = "3"
	checkLeast(t, s, cost, ones, twos, api.ErrProof)
	cost[api.MaxCols-1].Coef = "-1/2048"
	ray := slices.Repeat(list("0"), api.MaxCols)
	ray[api.MaxCols-1] = "1"
	checkRay(t, s, cost, ones, ray, api.OK)
	s.Rows = append(s.Rows, api.Row{Const: "0"})
	checkRay(t, s, cost, ones, ray, api.ErrForm)
	checkFarkas(t, s, slices.Repeat(list("1"), api.MaxRows+1), api.ErrForm)
	checkRay(t, api.System{Cols: api.MaxCols + 1}, terms("-x0"), slices.Repeat(list("1"), api.MaxCols+1), slices.Repeat(list("1"), api.MaxCols+1), api.ErrForm)
}

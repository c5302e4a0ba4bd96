package simplex

import (
	"math/big"
	"slices"
	"testing"

	"cellarer/api"
	"cellarer/certify"
	"cellarer/elim"
)

func TestExamples(t *testing.T) {
	s := rows(2, "1 x0 + 1 x1 + -4 >= 0", "-1 x0 + 3 >= 0")
	check(t, s, terms("x0 + 2 x1"), Answer{Values: list("3 1"), Mult: list("2 1"), Cost: "5"}, 2, api.OK)
	got, e := Solve(s, terms("-x1"))
	if got.Status != Unbounded || e != api.OK {
		t.Errorf("example 1 with the cost -x1 has the answer %v, %d", got, e)
	}
	s = rows(1, "1 x0 + -3 >= 0", "-1 x0 + 2 >= 0")
	check(t, s, nil, Answer{Status: None, Mult: list("1 1")}, 1, api.OK)
}

// TestSteps has systems for each rule of the method, with the numbers of pivots that follow from it.
func TestSteps(t *testing.T) {
	for _, c := range []struct {
		what   string
		cols   int
		lines  []string
		cost   string
		pivots int
		want   Answer
	}{
		{"the least column enters, not the one with the least entry", 2, []string{"-1 x0 + -1 x1 + 1 >= 0"}, "-x0 - 2 x1", 2,
			Answer{Values: list("0 1"), Mult: list("2"), Cost: "-2"}},
		{"the row with the least quotient leaves", 1, []string{"-1 x0 + 3 >= 0", "-2 x0 + 4 >= 0", "-5 x0 + 15 >= 0", "1 x0 >= 0"}, "-x0", 1,
			Answer{Values: list("2"), Mult: list("0 1/2 0 0"), Cost: "-2"}},
		{"of equal quotients, the row with the least basic column leaves, and an artificial column at 0 is replaced by the least column", 1,
			[]string{"1 x0 + -1 >= 0", "-1 x0 + 1 >= 0"}, "0", 2, Answer{Values: list("1"), Mult: list("0 0"), Cost: "0"}},
		{"of equal quotients, the row with the least basic column leaves", 2,
			[]string{"-1 x0 + 1 >= 0", "-1 x0 + -1 x1 + 1 >= 0"}, "-2 x0 - x1", 2, Answer{Values: list("1 0"), Mult: list("1 1"), Cost: "-2"}},
		{"equalities whose artificial columns cannot be replaced", 1, []string{"1 x0 + -1 = 0", "-2 x0 + 2 = 0", "0 = 0"}, "3 x0", 1,
			Answer{Values: list("1"), Mult: list("3 0 0"), Cost: "3"}},
		{"artificial columns do not enter", 2, []string{"1 x0 + -1 x1 + -1 = 0"}, "x0 + x1", 1,
			Answer{Values: list("1 0"), Mult: list("1"), Cost: "1"}},
		{"the values 0 satisfy an equality, and its artificial column is replaced", 2, []string{"-1 x0 + -2 x1 = 0"}, "-x0 - x1", 1,
			Answer{Values: list("0 0"), Mult: list("1"), Cost: "0"}},
		{"only then the cost is improved", 2, []string{"-1 x1 = 0"}, "-x0", 1,
			Answer{Status: Unbounded, Values: list("0 0"), Ray: list("1 0")}},
		{"a cost is unbounded in a column of the system", 3, []string{"1 x0 + -2 x2 + -1/2 >= 0", "1 x1 + -3 x2 + -1 = 0"}, "x0 + x1 - 6 x2", 2,
			Answer{Status: Unbounded, Values: list("1/2 1 0"), Ray: list("2 3 1")}},
		{"a cost is unbounded in a slack column", 2, []string{"1 x0 + -1/2 >= 0"}, "-x0", 1,
			Answer{Status: Unbounded, Values: list("1/2 0"), Ray: list("1 0")}},
		{"a cost is unbounded although no value changes in the first pivot", 2, []string{"-1 x0 + 1 x1 >= 0"}, "-x0", 1,
			Answer{Status: Unbounded, Values: list("0 0"), Ray: list("1 1")}},
		{"no solution, an equality with a positive Const", 1, []string{"1 x0 + 2 = 0", "5 >= 0"}, "x0", 0,
			Answer{Status: None, Mult: list("-1 0")}},
		{"no solution, an equality with a negative Const", 1, []string{"-1 x0 + -2 = 0", "5 >= 0"}, "x0", 0,
			Answer{Status: None, Mult: list("1 0")}},
		{"no solution, equalities that contradict each other", 1, []string{"2 x0 + -2 = 0", "-1 x0 + 2 = 0"}, "x0", 1,
			Answer{Status: None, Mult: list("-1/2 -1")}},
	} {
		s := rows(c.cols, c.lines...)
		p := plainOf(t, s, terms(c.cost))
		if got, ok := p.solve(s); !same(got, c.want) || p.pivots != c.pivots || !ok {
			t.Errorf("%s: %q has the answer %v after %d pivots", c.what, c.lines, got, p.pivots)
			continue
		}
		check(t, s, terms(c.cost), c.want, c.pivots, api.OK)
	}
}

func TestWithoutColumnsOrRows(t *testing.T) {
	for _, c := range []struct {
		s    api.System
		cost string
		want Answer
	}{
		{rows(0), "0", Answer{Cost: "0"}},
		{rows(2), "0", Answer{Values: list("0 0"), Cost: "0"}},
		{rows(2), "x0 + 1/2 x1", Answer{Values: list("0 0"), Cost: "0"}},
		{rows(3), "x0 - x1 - x2", Answer{Status: Unbounded, Values: list("0 0 0"), Ray: list("0 1 0")}},
		{rows(0, "1 >= 0", "0 >= 0", "0 = 0"), "0", Answer{Mult: list("0 0 0"), Cost: "0"}},
		{rows(0, "1 >= 0", "-1 >= 0"), "0", Answer{Status: None, Mult: list("0 1")}},
		{rows(0, "-2 = 0", "0 = 0", "2 = 0"), "0", Answer{Status: None, Mult: list("1 1 -1")}},
		{rows(api.MaxCols), "-x2047", Answer{Status: Unbounded, Values: slices.Repeat(list("0"), api.MaxCols), Ray: append(slices.Repeat(list("0"), api.MaxCols-1), "1")}},
	} {
		check(t, c.s, terms(c.cost), c.want, 0, api.OK)
	}
}

// TestCosts has costs that are unordered, have equal columns, or have the coefficient 0.
func TestCosts(t *testing.T) {
	s := rows(2, "1 x0 + 1 x1 + -4 >= 0", "-1 x0 + 3 >= 0")
	want := Answer{Values: list("3 1"), Mult: list("2 1"), Cost: "5"}
	for _, cost := range [][]api.Term{
		{{Col: 1, Coef: "2"}, {Col: 0, Coef: "1"}},
		{{Col: 1, Coef: "3"}, {Col: 0, Coef: "1"}, {Col: 1, Coef: "-1"}},
		{{Col: 0, Coef: "0"}, {Col: 0, Coef: "1/3"}, {Col: 1, Coef: "2"}, {Col: 0, Coef: "2/3"}},
	} {
		check(t, s, cost, want, 2, api.OK)
	}
	check(t, s, []api.Term{{Col: 1, Coef: "-1"}, {Col: 1, Coef: "1"}}, Answer{Values: list("3 1"), Mult: list("0 0"), Cost: "0"}, 2, api.OK)
}

// TestCycle has Beale's system: if the column with the least entry entered, the bases would recur.
func TestCycle(t *testing.T) {
	s := rows(4, "-1/4 x0 + 60 x1 + 1/25 x2 + -9 x3 >= 0", "-1/2 x0 + 90 x1 + 1/50 x2 + -3 x3 >= 0", "-1 x2 + 1 >= 0")
	got, e := checkPlain(t, s, terms("-3/4 x0 + 150 x1 - 1/50 x2 + 6 x3"))
	if got.Status != Least || got.Cost != "-1/20" || !slices.Equal(got.Values, list("1/25 0 1 0")) || e != api.OK {
		t.Errorf("Beale's system has the answer %v, %d", got, e)
	}
}

// TestDrawn compares drawn systems with the plain method, and checks the certificates.
func TestDrawn(t *testing.T) {
	d := newDrawn(1)
	found, pivots := map[int]int{}, 0
	for range 5000 {
		s := d.system(d.Intn(6), d.Intn(7))
		cost := d.terms(s.Cols)
		got, e := checkPlain(t, s, cost)
		if e != api.OK {
			t.Fatalf("Solve(%v, %v) returns the error %d", s, cost, e)
		}
		checkProved(t, s, cost, got)
		found[got.Status]++
		n, _ := Pivots(s, cost)
		pivots += n
		checkPlain(t, s, nil)
	}
	if found[Least] < 500 || found[None] < 500 || found[Unbounded] < 500 || pivots < 4000 {
		t.Errorf("the drawn systems have the answers %v, after %d pivots", found, pivots)
	}
}

func checkProved(t *testing.T, s api.System, cost []api.Term, a Answer) {
	t.Helper()
	var e api.Errno
	switch a.Status {
	case Least:
		e = certify.CheckLeast(s, cost, a.Values, a.Mult)
	case None:
		e = certify.CheckFarkas(s, a.Mult)
	case Unbounded:
		e = certify.CheckRay(s, cost, a.Values, a.Ray)
	}
	if e != api.OK {
		t.Fatalf("the answer %v for %v and the cost %v is not proved: %d", a, s, cost, e)
	}
}

// TestLarger has systems with more rows and columns, among them transport problems, where many bases have the same values.
func TestLarger(t *testing.T) {
	d := newDrawn(2)
	for range 12 {
		s := d.system(12, 12)
		cost := d.terms(12)
		got, e := checkPlain(t, s, cost)
		if e == api.OK {
			checkProved(t, s, cost, got)
		}
	}
	for size := 2; size < 6; size++ {
		s, cost := transport(d, size)
		got, e := checkPlain(t, s, cost)
		if got.Status != Least || e != api.OK {
			t.Fatalf("the transport problem %v has the answer %v, %d", s, got, e)
		}
		checkProved(t, s, cost, got)
	}
}

// transport returns a system in which as much leaves each place as arrives at each other one; one of its rows follows from the others.
func transport(d drawn, size int) (api.System, []api.Term) {
	s, cost := api.System{Cols: size * size}, []api.Term{}
	for i := range size {
		from, to := api.Row{Const: "-1", Eq: true}, api.Row{Const: "-1", Eq: true}
		for j := range size {
			from.Terms = append(from.Terms, api.Term{Col: i*size + j, Coef: "1"})
			to.Terms = append(to.Terms, api.Term{Col: j*size + i, Coef: "1"})
			cost = append(cost, api.Term{Col: i*size + j, Coef: big.NewRat(int64(1+d.Intn(5)), 1).RatString()})
		}
		s.Rows = append(s.Rows, from, to)
	}
	return s, cost
}

// TestFeasible compares the Status for no cost with the elimination of all columns.
func TestFeasible(t *testing.T) {
	d := newDrawn(3)
	for range 600 {
		s := d.system(d.Intn(4), d.Intn(6))
		want, e := elim.Feasible(s)
		if e != api.OK {
			t.Fatalf("elim.Feasible(%v) returns the error %d", s, e)
		}
		got, e := Feasible(s)
		if (got.Status == Least) != want || got.Status == Unbounded || e != api.OK {
			t.Fatalf("Feasible(%v) is %v, %d, where the elimination says %v", s, got, e, want)
		}
		if solved, e := Solve(s, []api.Term{}); !same(got, solved) || e != api.OK {
			t.Fatalf("Feasible(%v) is %v, and Solve without cost %v, %d", s, got, solved, e)
		}
	}
}

// TestOrder permutes rows and columns.
func TestOrder(t *testing.T) {
	d := newDrawn(4)
	for range 1000 {
		s := d.system(d.Intn(5), d.Intn(6))
		cost := d.terms(s.Cols)
		permuted := api.System{Cols: s.Cols}
		places := d.Perm(s.Cols)
		move := func(l []api.Term) []api.Term {
			l = slices.Clone(l)
			for i := range l {
				l[i].Col = places[l[i].Col]
			}
			slices.SortFunc(l, func(a, b api.Term) int { return a.Col - b.Col })
			return l
		}
		for _, i := range d.Perm(len(s.Rows)) {
			r := s.Rows[i]
			r.Terms = move(r.Terms)
			permuted.Rows = append(permuted.Rows, r)
		}
		a, e1 := Solve(s, cost)
		b, e2 := Solve(permuted, move(cost))
		if a.Status != b.Status || a.Cost != b.Cost || e1 != api.OK || e2 != api.OK {
			t.Fatalf("%v has the answer %v, %d, and in another order %v, %d", s, a, e1, b, e2)
		}
	}
}

// TestScaledCosts multiplies costs by positive numbers.
func TestScaledCosts(t *testing.T) {
	d := newDrawn(5)
	for range 1000 {
		s := d.system(d.Intn(5), d.Intn(6))
		cost := d.terms(s.Cols)
		by := big.NewRat(int64(1+d.Intn(5)), int64(1+d.Intn(5)))
		var scaled []api.Term
		for _, x := range cost {
			scaled = append(scaled, api.Term{Col: x.Col, Coef: new(big.Rat).Mul(number(x.Coef), by).RatString()})
		}
		a, e1 := Solve(s, cost)
		b, e2 := Solve(s, scaled)
		if a.Status == Least {
			a.Cost = by.Mul(by, number(a.Cost)).RatString()
		}
		if a.Status != b.Status || a.Cost != b.Cost || !slices.Equal(a.Values, b.Values) || e1 != api.OK || e2 != api.OK {
			t.Fatalf("%v has the answer %v, %d, and for a cost that is scaled %v, %d", s, a, e1, b, e2)
		}
	}
}

// TestMemory checks that arguments do not change, with the memory behind them, and that results are not shared.
func TestMemory(t *testing.T) {
	s := rows(2, "1 x0 + 1 x1 + -4 >= 0", "-1 x0 + 3 >= 0", "9 >= 0")
	behind := append(slices.Clone(s.Rows[1].Terms), api.Term{Col: 9, Coef: "9"})
	s.Rows[1].Terms = behind[:1]
	all, costs := s.Rows, append(terms("x0 + 2 x1"), api.Term{Col: 9, Coef: "9"})
	s.Rows = all[:2]
	for _, cost := range [][]api.Term{costs[:2], nil, terms("-x1")} {
		a, e1 := Solve(s, cost)
		kept := Answer{a.Status, slices.Clone(a.Values), slices.Clone(a.Mult), slices.Clone(a.Ray), a.Cost}
		for _, l := range [][]string{a.Values, a.Mult, a.Ray} {
			for i := range l {
				l[i] += "7"
			}
			_ = append(l, "7")
		}
		if b, e2 := Solve(s, cost); !same(b, kept) || e1 != api.OK || e2 != api.OK {
			t.Errorf("the answer %v, %d becomes %v, %d", kept, e1, b, e2)
		}
	}
	if all[2].Const != "9" || behind[1].Col != 9 || costs[2].Col != 9 || all[1].Const != "3" || costs[0].Coef != "1" {
		t.Errorf("the arguments were changed to %v, %v", all, costs)
	}
}

package lexmin

import (
	"math"
	"slices"
	"strings"
	"testing"

	"cellarer/api"
	"cellarer/certify"
	"cellarer/simplex"
)

// badNumbers are texts that stand for no number.
func badNumbers() []string {
	return []string{"", "-", "-0", "+1", "01", "2/4", "1/1", "0/1", "1/0", "1/-2", "x", " 1", "1.5", longest + "0", "1/" + longest + "0", strings.Repeat("7", 70000)}
}

// badSystems are not valid, but have no more than MaxRows rows.
func badSystems() []api.System {
	return []api.System{
		{Cols: -1}, {Cols: math.MinInt}, {Cols: api.MaxCols + 1}, {Cols: 1, Rows: []api.Row{{}}}, {Cols: 1, Rows: []api.Row{{Const: "-1"}, {Const: "2/4"}}},
		{Cols: 1, Rows: make([]api.Row, api.MaxRows)}, {Cols: 1, Rows: []api.Row{{Const: "0", Terms: []api.Term{{Col: 1, Coef: "1"}}}}},
		{Cols: 2, Rows: []api.Row{{Const: "0", Terms: []api.Term{{Col: 1, Coef: "1"}, {Col: 0, Coef: "1"}}}}},
	}
}

// badCosts are no costs of a system with two columns.
func badCosts() [][]api.Term {
	l := [][]api.Term{
		{{Col: -1, Coef: "1"}}, {{Col: 2, Coef: "1"}}, {{Col: math.MaxInt, Coef: "1"}}, {{Col: 0, Coef: "0"}}, {{Col: 0, Coef: "1"}, {Col: 1, Coef: "0"}},
		{{Col: 1, Coef: "1"}, {Col: 0, Coef: "1"}}, {{Col: 1, Coef: "1"}, {Col: 1, Coef: "1"}},
	}
	for _, coef := range badNumbers() {
		l = append(l, []api.Term{{Col: 0, Coef: "1"}, {Col: 1, Coef: coef}})
	}
	return l
}

func checkSolveError(t *testing.T, s api.System, costs [][]api.Term, want api.Errno) {
	t.Helper()
	checkSolve(t, s, costs, nil, nil, want)
}

// TestErrorsOfSolve checks the errors of Solve and their order.
func TestErrorsOfSolve(t *testing.T) {
	good, contradictory, tooMany := rows(2, "1 x0 + -1 >= 0"), rows(2, "-1 >= 0"), make([]api.Row, api.MaxRows+1)
	long := []api.Term{{Col: 0, Coef: longest}, {Col: 0, Coef: longest}}
	unknown, none := []api.Term{{Col: 2, Coef: "1"}}, []api.Term{{Col: 0, Coef: "x"}}
	// No costs precede everything.
	for _, s := range append(badSystems(), good, contradictory, api.System{Cols: 1, Rows: tooMany}) {
		checkSolveError(t, s, nil, api.ErrArg)
		checkSolveError(t, s, [][]api.Term{}, api.ErrArg)
	}
	// Too many rows precede what simplex rejects.
	for _, cost := range [][]api.Term{nil, unknown, none, long} {
		for _, cols := range []int{2, -1, api.MaxCols + 1} {
			checkSolveError(t, api.System{Cols: cols, Rows: tooMany}, [][]api.Term{cost, nil}, api.ErrMany)
		}
		for _, s := range badSystems() {
			checkSolveError(t, s, [][]api.Term{cost, nil}, api.ErrForm)
		}
	}
	// What simplex rejects, for each cost.
	for _, before := range [][][]api.Term{nil, costs("x0"), costs("x0", "0")} {
		checkSolveError(t, good, append(before, none, unknown), api.ErrForm)
		checkSolveError(t, good, append(before, unknown, none), api.ErrRange)
		checkSolveError(t, good, append(before, long, unknown), api.ErrLong)
		checkSolveError(t, good, append(before, append(slices.Clone(long), unknown...), none), api.ErrRange)
	}
	checkSolveError(t, rows(0), [][]api.Term{nil, {{Col: 0, Coef: "0"}}}, api.ErrRange)
	// Costs behind one that has no least value are not looked at, nor what is wrong with a cost behind a system without solution.
	checkSolve(t, contradictory, [][]api.Term{nil, unknown}, nil, []int{simplex.None}, api.ErrNone)
	checkSolve(t, good, append(costs("x0", "-x1"), none), nil, []int{simplex.Least, simplex.Unbounded}, api.ErrBound)
	checkSolveError(t, contradictory, [][]api.Term{unknown}, api.ErrRange)
	checkSolveError(t, contradictory, [][]api.Term{long}, api.ErrLong)
}

// TestMostRows has systems and stages that are as large as they may be, and larger ones.
func TestMostRows(t *testing.T) {
	s := many(1, 1021, "-1 x0 + 2 >= 0")
	answers := checkSolve(t, s, costs("-x0", "2 x0"), list("2"), []int{0, 0}, api.OK)
	checkSteps(t, s, costs("-x0", "2 x0"), list("2"), answers, api.OK)
	checkSolveError(t, s, costs("-x0", "2 x0", "x0"), api.ErrMany)
	checkSolveError(t, many(1, 1022, "1 x0 >= 0"), costs("x0", "x0"), api.ErrMany)
	checkSolve(t, many(1, 1022, "1 x0 >= 0"), costs("x0"), list("0"), []int{0}, api.OK)

	// Stages and CheckSteps do not need tableaus.
	for count := api.MaxRows - 3; count <= api.MaxRows; count++ {
		s := many(1, count, "1 x0 >= 0")
		for n := 1; n <= 5; n++ {
			var all [][]api.Term
			var steps []simplex.Answer
			for i := range n {
				all = append(all, costs("x0")...)
				steps = append(steps, simplex.Answer{Values: list("0"), Mult: slices.Repeat(list("0"), count+i), Cost: "0"})
			}
			if count+n-1 > api.MaxRows {
				checkForms(t, s, all, steps, api.ErrMany)
				continue
			}
			checkSteps(t, s, all, list("0"), steps, api.OK)
			checkStages(t, s, all, steps, plainStages(s, all, steps))
			steps[n-1].Mult[0] = "2"
			checkSteps(t, s, all, list("0"), steps, api.ErrProof)
		}
	}
}

// TestMostCosts has as many costs as there may be.
func TestMostCosts(t *testing.T) {
	s := rows(1, "1 x0 + -2 >= 0")
	all, steps := slices.Repeat(costs("x0"), api.MaxRows), make([]simplex.Answer, api.MaxRows)
	for i := range steps {
		steps[i] = simplex.Answer{Values: list("2"), Mult: append(list("1"), slices.Repeat(list("0"), i)...), Cost: "2"}
	}
	checkSteps(t, s, all, list("2"), steps, api.OK)
	all, steps = append(all, all[0]), append(steps, steps[0])
	checkForms(t, s, all, steps, api.ErrMany)
	s.Rows = nil
	for i := range steps {
		steps[i] = simplex.Answer{Values: list("0"), Mult: slices.Repeat(list("0"), i), Cost: "0"}
	}
	checkSteps(t, s, all, list("0"), steps, api.OK)
}

// TestForms checks which arguments of Stages and CheckSteps are not well-formed, and the order of these errors.
func TestForms(t *testing.T) {
	good, full := rows(2, "1 x0 + -1 >= 0"), many(2, api.MaxRows, "1 x0 >= 0")
	two, oneStep, twoSteps := costs("x0", "x1"), []simplex.Answer{{Cost: "1"}}, []simplex.Answer{{Cost: "1"}, {Cost: "0"}}
	badStep := []simplex.Answer{{Cost: "1"}, {Cost: "2/4"}}
	tooMany := api.System{Cols: 1, Rows: slices.Repeat(rows(1, "0 >= 0").Rows, api.MaxRows+1)}
	for _, s := range append(badSystems(), tooMany) {
		checkForms(t, s, nil, nil, api.ErrForm)
		checkForms(t, s, two, oneStep, api.ErrForm)
		checkForms(t, s, two, twoSteps, api.ErrForm)
	}
	for _, s := range []api.System{good, full, rows(0)} {
		for _, cost := range append(badCosts(), costs("x0")...) {
			checkForms(t, s, nil, nil, api.ErrArg)
			checkForms(t, s, [][]api.Term{}, oneStep, api.ErrArg)
			checkForms(t, s, [][]api.Term{cost}, nil, api.ErrArg)
			checkForms(t, s, [][]api.Term{cost, cost}, badStep[1:], api.ErrArg)
			checkForms(t, s, [][]api.Term{cost}, badStep, api.ErrArg)
		}
	}
	for _, s := range []api.System{good, full} {
		for _, cost := range badCosts() {
			checkForms(t, s, [][]api.Term{cost, two[1]}, twoSteps, api.ErrForm)
			checkForms(t, s, [][]api.Term{two[0], cost}, twoSteps, api.ErrForm)
		}
		for _, bad := range badNumbers() {
			checkForms(t, s, two, []simplex.Answer{{Cost: bad}, {Cost: "0"}}, api.ErrForm)
			checkForms(t, s, two, []simplex.Answer{{Cost: "0"}, {Cost: bad}}, api.ErrForm)
			checkForms(t, good, two[:1], []simplex.Answer{{Cost: bad, Status: simplex.None}}, api.ErrForm)
		}
	}
	checkForms(t, full, two, twoSteps, api.ErrMany)
	// The answer for a cost that is unbounded has no Cost.
	unbounded, e := simplex.Solve(good, costs("-x1")[0])
	if e != api.OK || unbounded.Status != simplex.Unbounded {
		t.Fatalf("the cost -x1 has the answer %v, %d", unbounded, e)
	}
	checkForms(t, good, costs("-x1"), []simplex.Answer{unbounded}, api.ErrForm)
}

// TestLong has numbers of MaxDigits digits and of one more, in the first and in a further stage.
func TestLong(t *testing.T) {
	for _, c := range []struct {
		what  string
		lines []string
		costs []string
		want  api.Errno
	}{
		{"the first stage", []string{"-1/10 x0 + " + power + " >= 0"}, []string{"-x0", "x1"}, api.ErrLong},
		{"the first stage", []string{"-1/9 x0 + " + power + " >= 0"}, []string{"-x0", "x1"}, api.OK},
		{"a pivot with the row of the first cost", nil, []string{power + " x0 + 1/10 x1", "x0"}, api.ErrLong},
		{"a pivot with the row of the first cost", nil, []string{power + " x0 + 1/9 x1", "x0"}, api.OK},
		{"the last cost", []string{"-1 x0 + " + power + " >= 0"}, []string{"x1", "-10 x0"}, api.ErrLong},
		{"the last cost", []string{"-1 x0 + " + power + " >= 0"}, []string{"x1", "-9 x0"}, api.OK},
	} {
		s, all := rows(2, c.lines...), costs(c.costs...)
		values, answers, e := Solve(s, all...)
		if e != c.want || e != api.OK && (len(values) != 0 || len(answers) != 0) {
			t.Errorf("%s: Solve for %q is %q, %v, %d, want %d", c.what, c.costs, values, answers, e, c.want)
		}
		if e == api.OK {
			checkSteps(t, s, all, values, answers, api.OK)
		}
	}
}

// TestLongCertificates has an answer whose certificate is too long for certify: the steps prove nothing then, without another error.
func TestLongCertificates(t *testing.T) {
	s := rows(1, "1 x0 + -1 >= 0", "1/"+power+" x0 >= 0")
	a := simplex.Answer{Values: list("1"), Mult: []string{"1", longest}, Cost: "1"}
	if e := certify.CheckLeast(s, costs("x0")[0], a.Values, a.Mult); e != api.ErrLong {
		t.Fatalf("the certificate %v is not too long: %d", a, e)
	}
	checkSteps(t, s, costs("x0"), list("1"), []simplex.Answer{a}, api.ErrProof)
	a.Mult[1] = "0"
	checkSteps(t, s, costs("x0"), list("1"), []simplex.Answer{a}, api.OK)
}

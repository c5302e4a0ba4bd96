package lexmin

import (
	"math/big"
	"slices"
	"testing"

	"cellarer/api"
	"cellarer/linear"
	"cellarer/simplex"
	"cellarer/system"
)

func TestExamples(t *testing.T) {
	s := rows(2, "1 x0 + 1 x1 + -4 >= 0", "-1 x0 + 3 >= 0")
	least := []int{simplex.Least, simplex.Least}
	answers := checkSolve(t, s, costs("x0 + x1", "x1"), list("3 1"), least, api.OK)
	if answers[0].Cost != "4" || answers[1].Cost != "1" {
		t.Errorf("example 1 has the answers %v", answers)
	}
	checkSolve(t, s, costs("x1", "x0"), list("3 1"), least, api.OK)
	checkSolve(t, s, costs("x0"), list("0 4"), least[:1], api.OK)
	checkSolve(t, rows(2, "1 x0 + -1 >= 0"), costs("x0", "-x1"), nil, []int{simplex.Least, simplex.Unbounded}, api.ErrBound)
}

func TestSolve(t *testing.T) {
	s := rows(3, "1 x0 + 1 x1 + 1 x2 + -6 >= 0", "-1 x0 + 4 >= 0", "-1 x1 + 3 >= 0", "-1 x2 + 5 >= 0")
	for _, c := range []struct {
		costs    []string
		values   string
		statuses []int
		want     api.Errno
	}{
		{[]string{"x2", "x1", "x0"}, "4 2 0", []int{0, 0, 0}, api.OK},
		{[]string{"x0", "x1", "x2"}, "0 1 5", []int{0, 0, 0}, api.OK},
		{[]string{"x1", "x0", "x2"}, "1 0 5", []int{0, 0, 0}, api.OK},
		{[]string{"x0 + x1 + x2", "x0 - x1", "-x2"}, "0 3 3", []int{0, 0, 0}, api.OK},
		{[]string{"-x0 - x1 - x2", "x0"}, "4 3 5", []int{0, 0}, api.OK},
		{[]string{"x0", "-x0", "0", "x1", "x0 + x1 + x2"}, "0 1 5", []int{0, 0, 0, 0, 0}, api.OK},
		{[]string{"1/3 x0 + 1/2 x1", "x2"}, "1 0 5", []int{0, 0}, api.OK},
	} {
		checkSolve(t, s, costs(c.costs...), list(c.values), c.statuses, c.want)
	}
	// The answers up to that without a least cost are returned, and no values.
	s = rows(3, "1 x0 + 1 x1 + -2 >= 0")
	checkSolve(t, s, costs("x0 + x1", "x0", "-x2", "x1"), nil, []int{0, 0, 2}, api.ErrBound)
	checkSolve(t, s, costs("-x2", "x0"), nil, []int{2}, api.ErrBound)
	checkSolve(t, s, costs("x0 + x1", "-x0", "-x1"), list("2 0 0"), []int{0, 0, 0}, api.OK)
	s = rows(1, "1 x0 + -3 >= 0", "-1 x0 + 2 >= 0")
	answers := checkSolve(t, s, costs("x0", "-x0"), nil, []int{1}, api.ErrNone)
	if !slices.Equal(answers[0].Mult, list("1 1")) {
		t.Errorf("the answer for a system without solution is %v", answers)
	}
}

func TestWithoutColumnsOrRows(t *testing.T) {
	for _, c := range []struct {
		s        api.System
		costs    []string
		values   string
		statuses []int
		want     api.Errno
	}{
		{rows(0), []string{"0"}, "", []int{0}, api.OK},
		{rows(0), []string{"0", "0"}, "", []int{0, 0}, api.OK},
		{rows(0, "1 >= 0", "0 = 0"), []string{"0", "0"}, "", []int{0, 0}, api.OK},
		{rows(0, "1 = 0"), []string{"0", "0"}, "", []int{1}, api.ErrNone},
		{rows(2), []string{"x0", "x0 + x1"}, "0 0", []int{0, 0}, api.OK},
		{rows(2), []string{"x0", "-x1"}, "", []int{0, 2}, api.ErrBound},
		{rows(2), []string{"x0 + x1", "-x1"}, "0 0", []int{0, 0}, api.OK},
	} {
		answers := checkSolve(t, c.s, costs(c.costs...), list(c.values), c.statuses, c.want)
		if c.want == api.OK {
			checkSteps(t, c.s, costs(c.costs...), list(c.values), answers, api.OK)
		}
	}
}

// TestDrawn compares the least costs of drawn systems with those that eliminations find, and checks the steps.
func TestDrawn(t *testing.T) {
	d := newDrawn(1)
	found := map[api.Errno]int{}
	for range 1200 {
		s := d.system(1+d.Intn(3), d.Intn(4))
		all := d.costs(s.Cols, 1+d.Intn(3))
		values, answers, e := Solve(s, all...)
		found[e]++
		if n := len(all); e == api.OK && len(answers) != n || e != api.OK && (len(values) != 0 || len(answers) == 0 || len(answers) > n) {
			t.Fatalf("Solve(%v, %v) is %q, %v, %d", s, all, values, answers, e)
		}
		stage := s
		for i, a := range answers {
			least, eliminatedError := eliminated(t, stage, all[i])
			want, _ := simplex.Solve(stage, all[i])
			last := i == len(answers)-1
			if !same(a, want) || a.Status == simplex.Least && a.Cost != least.RatString() || last && eliminatedError != e || !last && eliminatedError != api.OK {
				t.Fatalf("Solve(%v, %v) has the answer %v in stage %d, want %v, and the error %d, want %d", s, all, a, i, want, e, eliminatedError)
			}
			if a.Status == simplex.Least {
				stage = restricted(stage, all[i], least)
			}
		}
		if e == api.OK {
			checkValues(t, s, all, values, answers)
		}
	}
	if found[api.OK] < 300 || found[api.ErrNone] < 100 || found[api.ErrBound] < 100 {
		t.Errorf("the drawn systems have the results %v", found)
	}
}

// checkValues checks that values hold and have the costs of the answers, which the other functions accept.
func checkValues(t *testing.T, s api.System, all [][]api.Term, values []string, answers []simplex.Answer) {
	t.Helper()
	if ok, e := system.Holds(s, values); !ok || e != api.OK {
		t.Fatalf("the values %q do not hold for %v: %d", values, s, e)
	}
	for i, cost := range all {
		if got := valueOf(cost, values); got.RatString() != answers[i].Cost {
			t.Fatalf("the values %q have the cost %v, and the answer %v", values, got, answers[i])
		}
		// The answers for the first costs do not depend on the further ones.
		_, first, e := Solve(s, all[:i+1]...)
		if !slices.EqualFunc(first, answers[:i+1], same) || e != api.OK {
			t.Fatalf("%v has for the costs %v the answers %v, and for the first ones %v, %d", s, all, answers, first, e)
		}
	}
	checkSteps(t, s, all, values, answers, api.OK)
	checkStages(t, s, all, answers, plainStages(s, all, answers))
}

// TestDegenerate has systems in which many bases have the same values, and many values the same cost.
func TestDegenerate(t *testing.T) {
	cube := rows(3, "-1 x0 + 1 >= 0", "-1 x1 + 1 >= 0", "-1 x2 + 1 >= 0", "-1 x0 + -1 x1 + 2 >= 0", "-1 x0 + -1 x1 + -1 x2 + 3 >= 0", "1 x0 >= 0", "-2 x1 + 2 >= 0")
	for _, c := range []struct {
		costs  []string
		values string
	}{
		{[]string{"-x0 - x1 - x2"}, "1 1 1"},
		{[]string{"x0 + x1 - x2", "-x0 + x1"}, "0 0 1"},
		{[]string{"0", "0", "0"}, "0 0 0"},
		{[]string{"0", "-x0", "0", "-x1 - x2"}, "1 1 1"},
		{[]string{"-x0 - x1", "-x0 - x1", "x0 + x1", "x2"}, "1 1 0"},
		{[]string{"x0 - x1", "-x1 + x2", "-x0"}, "0 1 0"},
	} {
		answers := checkSolve(t, cube, costs(c.costs...), list(c.values), make([]int, len(c.costs)), api.OK)
		checkValues(t, cube, costs(c.costs...), list(c.values), answers)
	}
	point := rows(2, "1 x0 + -1 = 0", "2 x0 + -2 = 0", "-1 x0 + 1 x1 = 0", "1 x1 + -1 >= 0", "-1 x1 + 1 >= 0")
	answers := checkSolve(t, point, costs("x0", "-x0", "x0 + x1", "-x1"), list("1 1"), []int{0, 0, 0, 0}, api.OK)
	checkValues(t, point, costs("x0", "-x0", "x0 + x1", "-x1"), list("1 1"), answers)
}

func TestStages(t *testing.T) {
	s := rows(2, "1 x0 + 1 x1 + -4 >= 0 # 5", "-1 x0 + 3 = 0 # -6")
	all := costs("x0 + 2 x1", "-1/2 x1", "0", "x0")
	steps := []simplex.Answer{{Cost: "7/2"}, {Cost: "-5", Status: simplex.None}, {Cost: "0", Values: list("x")}, {Cost: "9"}}
	want := []api.System{s,
		rows(2, "1 x0 + 1 x1 + -4 >= 0 # 5", "-1 x0 + 3 = 0 # -6", "1 x0 + 2 x1 + -7/2 = 0"),
		rows(2, "1 x0 + 1 x1 + -4 >= 0 # 5", "-1 x0 + 3 = 0 # -6", "1 x0 + 2 x1 + -7/2 = 0", "-1/2 x1 + 5 = 0"),
		rows(2, "1 x0 + 1 x1 + -4 >= 0 # 5", "-1 x0 + 3 = 0 # -6", "1 x0 + 2 x1 + -7/2 = 0", "-1/2 x1 + 5 = 0", "0 = 0"),
	}
	for n := 1; n <= 4; n++ {
		checkStages(t, s, all[:n], steps[:n], want[:n])
	}
	checkStages(t, rows(0), costs("0", "0"), []simplex.Answer{{Cost: "-1"}, {Cost: "2"}}, []api.System{rows(0), rows(0, "1 = 0")})
}

// TestCheckSteps changes parts of steps that are a proof, one at a time.
func TestCheckSteps(t *testing.T) {
	s, all := rows(2, "1 x0 + 1 x1 + -4 >= 0", "-1 x0 + 3 >= 0"), costs("x0 + x1", "x1")
	steps := func() []simplex.Answer {
		return []simplex.Answer{{Values: list("0 4"), Mult: list("1 0"), Cost: "4"}, {Values: list("3 1"), Mult: list("0 1 1"), Cost: "1"}}
	}
	checkSteps(t, s, all, list("3 1"), steps(), api.OK)
	for _, c := range []struct {
		what   string
		values string
		change func(l []simplex.Answer)
		want   api.Errno
	}{
		{"other values with the first cost", "3 1", func(l []simplex.Answer) { l[0].Values = list("2 2") }, api.OK},
		{"a ray", "3 1", func(l []simplex.Answer) { l[0].Ray = list("7") }, api.OK},
		{"values of the first answer that do not hold", "3 1", func(l []simplex.Answer) { l[0].Values = list("4 0") }, api.ErrProof},
		{"values of the first answer with a greater cost", "3 1", func(l []simplex.Answer) { l[0].Values = list("2 3") }, api.ErrProof},
		{"values of the first answer with a greater cost, which it has", "3 1", func(l []simplex.Answer) { l[0].Values, l[0].Cost = list("3 2"), "5" }, api.ErrProof},
		{"another cost of the first answer", "3 1", func(l []simplex.Answer) { l[0].Cost = "3" }, api.ErrProof},
		{"another cost of the last answer", "3 1", func(l []simplex.Answer) { l[1].Cost = "2" }, api.ErrProof},
		{"other multipliers of the first answer", "3 1", func(l []simplex.Answer) { l[0].Mult = list("1/2 0") }, api.ErrProof},
		{"other multipliers of the last answer", "3 1", func(l []simplex.Answer) { l[1].Mult = list("1 1 0") }, api.OK},
		{"other multipliers of the last answer", "3 1", func(l []simplex.Answer) { l[1].Mult = list("1 0 0") }, api.ErrProof},
		{"too few multipliers", "3 1", func(l []simplex.Answer) { l[1].Mult = list("0 1") }, api.ErrProof},
		{"too few values", "3", func(l []simplex.Answer) { l[1].Values = list("3") }, api.ErrProof},
		{"multipliers that are no numbers", "3 1", func(l []simplex.Answer) { l[1].Mult = list("0 1 2/2") }, api.ErrProof},
		{"values that are no numbers", "3 2/2", func(l []simplex.Answer) { l[1].Values = list("3 2/2") }, api.ErrProof},
		{"a product that is too long", "3 1", func(l []simplex.Answer) { l[0].Mult = []string{longest, "0"} }, api.ErrProof},
		{"values of the last answer without the first cost", "2 2", func(l []simplex.Answer) { l[1].Values = list("2 2") }, api.ErrProof},
		{"the Status Unbounded", "3 1", func(l []simplex.Answer) { l[1].Status = simplex.Unbounded }, api.ErrProof},
		{"the Status None", "3 1", func(l []simplex.Answer) { l[0].Status = simplex.None }, api.ErrProof},
		{"no Status", "3 1", func(l []simplex.Answer) { l[0].Status = -1 }, api.ErrProof},
		{"other values", "2 2", func(l []simplex.Answer) {}, api.ErrProof},
		{"the values of the first answer", "0 4", func(l []simplex.Answer) {}, api.ErrProof},
		{"no values", "", func(l []simplex.Answer) {}, api.ErrProof},
		{"a value too many", "3 1 0", func(l []simplex.Answer) {}, api.ErrProof},
		{"the answers in another order", "3 1", func(l []simplex.Answer) { slices.Reverse(l) }, api.ErrProof},
	} {
		l := steps()
		c.change(l)
		if e := CheckSteps(s, all, list(c.values), l); e != c.want || plainCheck(s, all, list(c.values), l) != c.want {
			t.Errorf("CheckSteps for %s is %d, want %d", c.what, e, c.want)
		}
	}
}

// TestDisturbed changes a number of drawn steps.
func TestDisturbed(t *testing.T) {
	d := newDrawn(2)
	found := map[api.Errno]int{}
	for range 4000 {
		s := d.system(1+d.Intn(3), 1+d.Intn(3))
		all := d.costs(s.Cols, 1+d.Intn(3))
		values, steps, e := Solve(s, all...)
		if e != api.OK {
			continue
		}
		change := func(x *string) {
			sum := number(*x)
			*x = sum.Add(sum, big.NewRat(int64(1-2*d.Intn(2)), int64(1+d.Intn(3)))).RatString()
		}
		a := &steps[d.Intn(len(steps))]
		switch d.Intn(6) {
		case 0:
			change(&a.Values[d.Intn(s.Cols)])
			values = slices.Clone(steps[len(steps)-1].Values)
		case 1:
			change(&a.Mult[d.Intn(len(a.Mult))])
		case 2:
			change(&a.Cost)
		case 3:
			change(&values[d.Intn(s.Cols)])
		case 4:
			change(&s.Rows[d.Intn(len(s.Rows))].Const)
		case 5:
			cost := &all[d.Intn(len(all))]
			*cost = d.terms(s.Cols)
		}
		want := plainCheck(s, all, values, steps)
		checkSteps(t, s, all, values, steps, want)
		found[want]++
	}
	if found[api.OK] < 100 || found[api.ErrProof] < 500 {
		t.Errorf("the disturbed steps have the results %v", found)
	}
}

// TestSmaller checks by elimination that no values have lexicographically smaller costs than steps that are accepted.
func TestSmaller(t *testing.T) {
	d := newDrawn(3)
	accepted := 0
	for range 600 {
		s := d.system(1+d.Intn(3), 1+d.Intn(3))
		all := d.costs(s.Cols, 2)
		values, steps, e := Solve(s, all...)
		if e != api.OK || CheckSteps(s, all, values, steps) != api.OK {
			continue
		}
		accepted++
		stage := s
		for _, cost := range all {
			value := valueOf(cost, values)
			if least, e := eliminated(t, stage, cost); e != api.OK || least.Cmp(value) != 0 {
				t.Fatalf("the cost %v of %v has the value %v, and the least one %v, %d", cost, stage, value, least, e)
			}
			stage = restricted(stage, cost, value)
		}
	}
	if accepted < 100 {
		t.Errorf("only %d drawn systems have lexicographically least values", accepted)
	}
}

// TestMemory checks that arguments do not change, with the memory behind them, and that results share none.
func TestMemory(t *testing.T) {
	s := rows(2, "1 x0 + 1 x1 + -4 >= 0", "-1 x0 + 3 >= 0", "9 >= 0")
	all := costs("x0 + x1", "x1", "7 x0")
	behindRows, behindTerms := s.Rows, append(all[0], api.Term{Col: 9, Coef: "9"})
	s.Rows, all[0] = behindRows[:2], behindTerms[:2]
	values, answers, e1 := Solve(s, all[:2]...)
	stages, e2 := Stages(s, all[:2], answers)
	want := plainStages(s, all[:2], answers)
	if e3 := CheckSteps(s, all[:2], values, answers); e1 != api.OK || e2 != api.OK || e3 != api.OK {
		t.Fatalf("the errors are %d, %d, %d", e1, e2, e3)
	}
	if behindRows[2].Const != "9" || behindTerms[2].Col != 9 || !slices.Equal(all[2], costs("7 x0")[0]) {
		t.Errorf("the memory behind the arguments is %v, %v, %v", behindRows, behindTerms, all)
	}
	values[0] = "7"
	if answers[1].Values[0] != "3" {
		t.Errorf("the values share memory with the answers %v", answers)
	}
	for i := range stages {
		got := stages[len(stages)-1-i]
		if !sameRows(got, want[len(want)-1-i]) {
			t.Errorf("stage %d is %v, want %v", i, got, want[len(want)-1-i])
		}
		for j := range got.Rows {
			for k := range got.Rows[j].Terms {
				got.Rows[j].Terms[k] = api.Term{Col: 7, Coef: "7"}
			}
			got.Rows[j] = api.Row{Const: "7"}
		}
		_ = append(got.Rows, api.Row{Const: "8"})
	}
	if !sameRows(s, rows(2, "1 x0 + 1 x1 + -4 >= 0", "-1 x0 + 3 >= 0")) || !slices.Equal(all[0], costs("x0 + x1")[0]) {
		t.Errorf("the stages share memory with the arguments %v, %v", s, all)
	}
}

// TestOtherCosts has costs whose terms are not as certify asks for: Solve minimizes them like simplex, unless they become rows.
func TestOtherCosts(t *testing.T) {
	s := rows(2, "1 x0 + 1 x1 + -4 >= 0", "-1 x0 + 3 >= 0")
	for _, cost := range [][]api.Term{
		{{Col: 1, Coef: "2"}, {Col: 0, Coef: "1"}}, {{Col: 0, Coef: "1"}, {Col: 1, Coef: "1"}, {Col: 1, Coef: "1"}}, {{Col: 0, Coef: "0"}},
	} {
		first, plain := costs("x0 + x1")[0], []api.Term(nil)
		if f, e := linear.Of("0", cost...); e == api.OK {
			plain = f.Terms
		}
		want, _, e := Solve(s, first, plain)
		if e != api.OK {
			t.Fatalf("Solve for the cost %v returns the error %d", plain, e)
		}
		answers := checkSolve(t, s, [][]api.Term{first, cost}, want, []int{0, 0}, api.OK)
		checkForms(t, s, [][]api.Term{first, cost}, answers, api.ErrForm)
		checkSolve(t, s, [][]api.Term{cost, first}, nil, nil, api.ErrForm)
	}
}

package presolve

import (
	"slices"
	"testing"

	"cellarer/api"
	"cellarer/certify"
	"cellarer/elim"
	"cellarer/simplex"
	"cellarer/system"
)

func TestExamples(t *testing.T) {
	s := rows(3, "2 x0 + -4 = 0", "1 x1 + -3 x2 = 0", "1 x0 + 1 x1 + -1 x2 + -7 >= 0")
	got, u := reduced(t, s)
	if want := rows(1, "2/3 x0 + -5 >= 0"); !same(got, want) || !slices.Equal(u.Rows(), []int{2}) || !slices.Equal(u.Gone(), []int{0, 2}) {
		t.Errorf("example 1 is reduced to %v, %v, %v", got, u.Rows(), u.Gone())
	}
	checkList(t, "Back", u.Back, list("9"), list("2 9 3"), api.OK)
	checkList(t, "Lift", u.Lift, list("1"), list("-1/2 -1/3 1"), api.OK)
	checkList(t, "Lift", u.Lift, list("3"), list("-3/2 -1 3"), api.OK)
	s = rows(1, "1 x0 + 1 = 0")
	got, u = reduced(t, s)
	if !same(got, s) || !slices.Equal(u.Rows(), []int{0}) || len(u.Gone()) != 0 {
		t.Errorf("example 2 is reduced to %v, %v, %v", got, u.Rows(), u.Gone())
	}
}

// TestReduce has systems with what remains of them, the rows that remain, and the columns that do not.
func TestReduce(t *testing.T) {
	for _, c := range []struct {
		what   string
		s      api.System
		want   api.System
		remain []int
		gone   []int
	}{
		{"nothing", rows(0), rows(0), nil, nil},
		{"no rows", rows(3), rows(0), nil, []int{0, 1, 2}},
		{"no columns", rows(0, "1 >= 0 # 4", "-1 >= 0 # 5", "0 >= 0", "0 = 0", "1 = 0", "-1/2 = 0 # 6"), rows(0, "-1 >= 0 # 5", "1 = 0", "-1/2 = 0 # 6"), []int{1, 4, 5}, nil},
		{"unused columns", rows(4, "1 x1 + 1 x3 >= 0 # -3"), rows(2, "1 x0 + 1 x1 >= 0 # -3"), []int{0}, []int{0, 2}},
		{"rows that are no equalities", rows(2, "1 x0 + -2 >= 0", "1 x0 + -1 x1 >= 0"), rows(2, "1 x0 + -2 >= 0", "1 x0 + -1 x1 >= 0"), []int{0, 1}, nil},
		{"one term", rows(2, "-2 x0 + 3 = 0", "3 x0 + 2 x1 + 1 >= 0"), rows(1, "2 x0 + 11/2 >= 0"), []int{1}, []int{0}},
		{"one term and the Const 0", rows(2, "-2 x0 = 0", "3 x0 + 2 x1 + 1 >= 0"), rows(1, "2 x0 + 1 >= 0"), []int{1}, []int{0}},
		{"a negative value", rows(2, "-2 x0 + -3 = 0", "3 x0 + 2 x1 + 1 >= 0"), rows(2, "-2 x0 + -3 = 0", "3 x0 + 2 x1 + 1 >= 0"), []int{0, 1}, nil},
		{"two values", rows(1, "1 x0 + -2 = 0 # 1", "1 x0 + -3 = 0 # 2"), rows(0, "-1 = 0 # 2"), []int{1}, []int{0}},
		{"a value first, then a negative one", rows(1, "1 x0 + 3 = 0 # 1", "1 x0 + -2 = 0 # 2"), rows(0, "5 = 0 # 1"), []int{0}, []int{0}},
		{"the same value twice", rows(1, "1 x0 + -2 = 0", "2 x0 + -4 = 0"), rows(0), nil, []int{0}},
		{"a row that becomes empty and holds", rows(1, "2 x0 + -3 >= 0", "1 x0 + -2 = 0"), rows(0), nil, []int{0}},
		{"a row that becomes empty and holds exactly", rows(1, "2 x0 + -4 >= 0", "1 x0 + -2 = 0"), rows(0), nil, []int{0}},
		{"a row that becomes empty and does not hold", rows(1, "2 x0 + -5 >= 0 # 7", "1 x0 + -2 = 0"), rows(0, "-1 >= 0 # 7"), []int{0}, []int{0}},
		{"two terms", rows(3, "2 x0 + -3 x2 = 0", "1 x0 + 1 x1 + 1 x2 + -1 = 0"), rows(2, "5/3 x0 + 1 x1 + -1 = 0"), []int{1}, []int{2}},
		{"two terms of the other signs", rows(3, "-2 x0 + 3 x2 = 0", "1 x0 + 1 x1 + 1 x2 + -1 = 0"), rows(2, "5/3 x0 + 1 x1 + -1 = 0"), []int{1}, []int{2}},
		{"two terms with the same sign", rows(2, "2 x0 + 3 x1 = 0", "-1 x0 + -1 x1 = 0"), rows(2, "2 x0 + 3 x1 = 0", "-1 x0 + -1 x1 = 0"), []int{0, 1}, nil},
		{"two terms and a Const", rows(2, "2 x0 + -3 x1 + 1 = 0"), rows(2, "2 x0 + -3 x1 + 1 = 0"), []int{0}, nil},
		{"a tied column of which nothing remains", rows(2, "1 x0 + -2 x1 = 0"), rows(0), nil, []int{0, 1}},
		{"the same tie twice", rows(3, "1 x0 + -2 x1 = 0", "1/2 x0 + -1 x1 = 0", "1 x1 + 1 x2 + -1 = 0"), rows(2, "1/2 x0 + 1 x1 + -1 = 0"), []int{2}, []int{1}},
		{"two ties between two columns", rows(2, "1 x0 + -2 x1 = 0", "1 x0 + -1 x1 = 0", "1 x1 + -1 >= 0"), rows(0, "-1 >= 0"), []int{2}, []int{0, 1}},
		{"a column that two rows cancel", rows(3, "1 x0 + -1 x1 = 0", "1 x0 + -1 x1 + 1 x2 + -1 >= 0"), rows(1, "1 x0 + -1 >= 0"), []int{1}, []int{0, 1}},
		{"steps in their order, not in that of rows", rows(3, "1 x1 + -1 x2 = 0", "1 x0 + -1 x1 = 0", "1 x2 + -4 = 0", "1 x0 + 1 x1 + 1 x2 + -20 = 0 # 1"), rows(0, "-8 = 0 # 1"), []int{3}, []int{0, 1, 2}},
		{"the first row of several", rows(2, "3 x0 + -3 = 0 # 1", "-1 x0 + 1 x1 = 0", "1 x1 + -2 = 0 # 2"), rows(0, "-1 = 0 # 2"), []int{2}, []int{0, 1}},
	} {
		got, u := reduced(t, c.s)
		if !same(got, c.want) || !slices.Equal(u.Rows(), c.remain) || !slices.Equal(u.Gone(), c.gone) {
			t.Errorf("%s: Reduce(%v) is %v with the Rows %v and Gone %v, want %v, %v, %v", c.what, c.s, got, u.Rows(), u.Gone(), c.want, c.remain, c.gone)
		}
		checkPlain(t, newDrawn(0), c.s)
	}
}

// TestChains has columns that depend on one another, with values and multipliers for what remains.
func TestChains(t *testing.T) {
	for _, c := range []struct {
		s            api.System
		values, back string
		mult, lift   string
	}{
		{rows(4, "1 x0 + -2 x1 = 0", "1 x1 + -2 x2 = 0", "1 x2 + -2 x3 = 0", "8 x3 + -1 >= 0"), "40", "40 20 10 5", "1", "1 2 4 1"},
		{rows(4, "1 x2 + -2 x3 = 0", "1 x1 + -2 x2 = 0", "1 x0 + -2 x1 = 0", "8 x3 + -1 >= 0"), "40", "40 20 10 5", "1", "4 2 1 1"},
		{rows(4, "2 x0 + -1 x3 = 0", "1 x1 + -3 x3 = 0", "1 x2 + -1 x3 = 0", "1 x3 + -1 >= 0"), "3", "3 18 6 6", "1", "1 0 0 1"},
		{rows(3, "1 x0 + -1 x1 = 0", "1 x1 + -3 x2 = 0", "1 x0 + -6 = 0", "1 x2 + -5 >= 0"), "", "6 6 2", "2", "2/3 2/3 -2/3 2"},
		{rows(3, "1 x0 + -1 x1 = 0", "1 x1 + -3 x2 = 0", "1 x2 + -6 = 0", "1 x0 + -19 >= 0"), "", "18 18 6", "2", "-2 -2 -6 2"},
		{rows(3, "1 x0 + 1 x1 + -1 x2 + 5 = 0", "1 x1 + -2 = 0", "1 x2 + -7 = 0", "1 x0 + -1 >= 0"), "", "0 2 7", "1", "-1 1 -1 1"},
		{rows(3, "1 x0 + 1 x1 + -2 x2 = 0", "1 x0 + -1 x1 = 0", "1 x2 + -3 >= 0"), "4", "4 4 4", "1", "1/2 1/2 1"},
		{rows(5, "1 x1 + -1 x3 = 0", "1 x3 + 1 x4 + -1 >= 0"), "7 8", "0 7 0 7 8", "2", "2 2"},
		{rows(2, "1 x0 + -3 x1 = 0"), "", "0 0", "", "0"},
		{rows(3, "1 x0 + -3 x1 = 0", "1 x1 + -1 x2 = 0", "1 = 0"), "", "0 0 0", "5", "0 0 5"},
	} {
		_, u := reduced(t, c.s)
		checkList(t, "Back", u.Back, list(c.values), list(c.back), api.OK)
		checkList(t, "Lift", u.Lift, list(c.mult), list(c.lift), api.OK)
		checkPlain(t, newDrawn(0), c.s)
	}
}

func TestZeroUndo(t *testing.T) {
	_, of, e := Reduce(api.System{})
	if e != api.OK {
		t.Fatalf("Reduce of the zero System returns %d", e)
	}
	for _, u := range []Undo{{}, of} {
		if len(u.Rows()) != 0 || len(u.Gone()) != 0 {
			t.Errorf("the zero Undo has the Rows %v and Gone %v", u.Rows(), u.Gone())
		}
		checkUndoErrors(t, u, 0, 0)
		checkList(t, "Back", u.Back, nil, nil, api.OK)
		checkList(t, "Lift", u.Lift, []string{}, nil, api.OK)
	}
}

// checkUndoErrors checks the errors of Back and Lift for the numbers of columns and rows of a reduced system.
func checkUndoErrors(t *testing.T, u Undo, cols, count int) {
	t.Helper()
	bad := []string{"", "-", "-0", "+1", "01", "2/4", "1/1", "0/1", "1/0", "1/-2", "x", " 1", "1.5", longest + "0", "1/" + longest + "0"}
	for n := range max(cols, count) + 3 {
		numbers := zeros(n)
		for i := range n + 1 {
			for _, s := range append(bad, "1") {
				if i < n {
					numbers = zeros(n)
					numbers[i] = s
				}
				checkCount(t, "Back", u.Back, numbers, cols)
				checkCount(t, "Lift", u.Lift, numbers, count)
			}
		}
	}
}

// checkCount checks that numbers are rejected if they are not as many as asked for, and otherwise if one of them is no number.
func checkCount(t *testing.T, name string, operate func([]string) ([]string, api.Errno), numbers []string, count int) {
	t.Helper()
	switch isBad := slices.ContainsFunc(numbers, func(s string) bool { return s != "0" && s != "1" }); {
	case len(numbers) != count:
		checkList(t, name, operate, numbers, nil, api.ErrRange)
	case isBad:
		checkList(t, name, operate, numbers, nil, api.ErrForm)
	default:
		if _, e := operate(numbers); e != api.OK {
			t.Fatalf("%s(%q) returns the error %d", name, numbers, e)
		}
	}
}

func TestUndoErrors(t *testing.T) {
	d := newDrawn(1)
	for range 30 {
		r, u := reduced(t, d.system(d.Intn(5), d.Intn(6)))
		checkUndoErrors(t, u, r.Cols, len(r.Rows))
	}
	// A text that is no number precedes a product that is too long.
	_, u := reduced(t, rows(3, "10 x0 + -1 x1 = 0", "1 x0 + 1 x2 + -1 >= 0", "10 x1 + 1 x2 + -1 >= 0"))
	checkList(t, "Back", u.Back, []string{power, "x"}, nil, api.ErrForm)
	checkList(t, "Back", u.Back, []string{power, "1"}, nil, api.ErrLong)
	checkList(t, "Back", u.Back, []string{power, "1", "1"}, nil, api.ErrRange)
	checkList(t, "Lift", u.Lift, []string{"1", "2/4"}, nil, api.ErrForm)
	checkList(t, "Lift", u.Lift, []string{"x", power}, nil, api.ErrForm)
	checkList(t, "Lift", u.Lift, []string{"1", power}, nil, api.ErrLong)
	checkList(t, "Lift", u.Lift, []string{power}, nil, api.ErrRange)
}

// TestDrawn compares drawn systems with the plain reduction.
func TestDrawn(t *testing.T) {
	d := newDrawn(2)
	rowsGone, colsGone, chains := 0, 0, 0
	for range 3000 {
		s := d.system(d.Intn(7), d.Intn(8))
		r, u, e := checkPlain(t, d, s)
		if e != api.OK {
			t.Fatalf("Reduce(%v) returns the error %d", s, e)
		}
		rowsGone += len(s.Rows) - len(r.Rows)
		colsGone += len(u.Gone())
		if len(u.substitutions) > 2 {
			chains++
		}
	}
	if rowsGone < 2000 || colsGone < 2000 || chains < 150 {
		t.Errorf("of the drawn systems, %d rows and %d columns are removed, and %d have more than two substitutions", rowsGone, colsGone, chains)
	}
}

// TestSolutions checks what holds for a system and its reduced one: values, certificates and costs.
func TestSolutions(t *testing.T) {
	d := newDrawn(3)
	found := map[int]int{}
	for range 1500 {
		s := d.system(1+d.Intn(5), d.Intn(7))
		r, u := reduced(t, s)
		feasible, e := elim.Feasible(s)
		answer, e1 := simplex.Solve(r, d.terms(r.Cols, 3))
		if e != api.OK || e1 != api.OK || feasible != (answer.Status != simplex.None) {
			t.Fatalf("%v can be satisfied: %v, %d, and the reduced system has the answer %v, %d", s, feasible, e, answer, e1)
		}
		found[answer.Status]++
		if answer.Status == simplex.None {
			mult, e := u.Lift(answer.Mult)
			if farkas := certify.CheckFarkas(s, mult); e != api.OK || farkas != api.OK {
				t.Fatalf("the multipliers %q, %d, which %q become, are no certificate for %v: %d", mult, e, answer.Mult, s, farkas)
			}
			continue
		}
		values, e := u.Back(answer.Values)
		checkHolds(t, s, values, e)
		original, e := simplex.Solve(s, d.terms(s.Cols, 3))
		var remain []string
		for col, value := range original.Values {
			if !slices.Contains(u.Gone(), col) {
				remain = append(remain, value)
			}
		}
		checkHolds(t, r, remain, e)
	}
	if found[simplex.Least] < 200 || found[simplex.None] < 200 || found[simplex.Unbounded] < 100 {
		t.Errorf("the drawn systems have the answers %v", found)
	}
}

func checkHolds(t *testing.T, s api.System, values []string, e api.Errno) {
	t.Helper()
	if ok, holds := system.Holds(s, values); !ok || holds != api.OK || e != api.OK {
		t.Fatalf("the values %q, %d do not hold for %v: %d", values, e, s, holds)
	}
}

// TestAgain reduces reduced systems.
func TestAgain(t *testing.T) {
	d := newDrawn(4)
	for range 1000 {
		s, _ := reduced(t, d.system(d.Intn(6), d.Intn(7)))
		again, u := reduced(t, s)
		if !same(s, again) || len(u.Gone()) != 0 || len(u.Rows()) != len(s.Rows) || !slices.IsSorted(u.Rows()) {
			t.Fatalf("the reduced system %v is reduced to %v with the Rows %v and Gone %v", s, again, u.Rows(), u.Gone())
		}
		values, mult := d.numbers(s.Cols), d.numbers(len(s.Rows))
		checkList(t, "Back", u.Back, values, values, api.OK)
		checkList(t, "Lift", u.Lift, mult, mult, api.OK)
	}
}

// TestMemory checks that arguments do not change, with the memory behind them, and that results are not shared.
func TestMemory(t *testing.T) {
	texts := []string{"2 x0 + -4 = 0 # 3", "1 x1 + -3 x2 = 0", "1 x0 + 1 x1 + -1 x2 + 1 x4 + -7 >= 0", "-1 x1 + 1 x4 + -1 >= 0"}
	s, spare := rows(5, texts...), api.Term{Col: 4, Coef: "9"}
	behind := make([][]api.Term, len(s.Rows))
	for i, r := range s.Rows {
		behind[i] = append(slices.Clone(r.Terms), spare)
		s.Rows[i].Terms = behind[i][:len(r.Terms)]
	}
	all := append(s.Rows, api.Row{Const: "9"})
	s.Rows = all[:4]
	r, u := reduced(t, s)
	want, _ := reduced(t, rows(5, texts...))
	if !same(s, rows(5, texts...)) || all[4].Const != "9" || slices.ContainsFunc(behind, func(l []api.Term) bool { return l[len(l)-1] != spare }) {
		t.Errorf("the arguments were changed to %v, %v", all, behind)
	}
	// Whatever is changed in results and arguments is not seen elsewhere.
	for range 2 {
		for _, l := range [][]int{u.Rows(), u.Gone()} {
			for i := range l {
				l[i] = -7
			}
			_ = append(l, -7)
		}
		values, mult := list("1 2"), list("1 2")
		back, _ := u.Back(values)
		lift, _ := u.Lift(mult)
		for _, l := range [][]string{back, lift} {
			for i := range l {
				l[i] = "-7"
			}
		}
		if !slices.Equal(values, list("1 2")) || !slices.Equal(mult, list("1 2")) {
			t.Errorf("the arguments were changed to %q, %q", values, mult)
		}
		for i := range s.Rows {
			clear(s.Rows[i].Terms)
			s.Rows[i].Const = "-7"
		}
		if !same(r, want) {
			t.Errorf("the reduced system was changed to %v, from %v", r, want)
		}
		for i := range r.Rows {
			_ = append(r.Rows[i].Terms, spare)
			clear(r.Rows[i].Terms)
		}
		if !slices.Equal(u.Rows(), []int{2, 3}) || !slices.Equal(u.Gone(), []int{0, 2, 3}) {
			t.Errorf("the Undo was changed to %v, %v", u.Rows(), u.Gone())
		}
		checkList(t, "Back", u.Back, list("6 1"), list("2 6 2 0 1"), api.OK)
		checkList(t, "Lift", u.Lift, list("2 3"), list("-1 -2/3 2 3"), api.OK)
		want = r
	}
}

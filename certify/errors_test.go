package certify

import (
	"slices"
	"strings"
	"testing"

	"cellarer/api"
	"cellarer/linear"
)

// badNumbers are texts that stand for no number.
func badNumbers() []string {
	return []string{"", "-", "-0", "+1", "01", "2/4", "1/1", "0/1", "1/0", "1/-2", "x", " 1", "1 ", "1.5", tooLong, "-" + tooLong, "1/" + tooLong, strings.Repeat("7", 70000)}
}

// badSystems are not valid.
func badSystems() []api.System {
	row := func(l []api.Term, c string) []api.Row { return []api.Row{{Terms: l, Const: c}} }
	return []api.System{
		{Cols: -1}, {Cols: api.MaxCols + 1}, {Cols: 1, Rows: make([]api.Row, api.MaxRows+1)}, {Cols: 1, Rows: row(nil, "")}, {Cols: 1, Rows: row(nil, "2/4")},
		{Cols: 1, Rows: row([]api.Term{{Col: 1, Coef: "1"}}, "0")}, {Cols: 1, Rows: row([]api.Term{{Col: -1, Coef: "1"}}, "0")}, {Cols: 1, Rows: row([]api.Term{{Col: 0, Coef: "0"}}, "0")},
		{Cols: 2, Rows: row([]api.Term{{Col: 1, Coef: "1"}, {Col: 0, Coef: "1"}}, "0")}, {Cols: 2, Rows: row([]api.Term{{Col: 1, Coef: "1"}, {Col: 1, Coef: "1"}}, "0")},
	}
}

// badCosts are no costs of a system with two columns.
func badCosts() [][]api.Term {
	l := [][]api.Term{
		{{Col: -1, Coef: "1"}}, {{Col: 2, Coef: "1"}}, {{Col: 1, Coef: "1"}, {Col: 2, Coef: "1"}}, {{Col: 0, Coef: "0"}},
		{{Col: 1, Coef: "1"}, {Col: 0, Coef: "1"}}, {{Col: 0, Coef: "1"}, {Col: 0, Coef: "-1"}}, {{Col: api.MaxCols, Coef: "1"}},
	}
	for _, coef := range badNumbers() {
		l = append(l, []api.Term{{Col: 1, Coef: coef}})
	}
	return l
}

// counts are lists with other numbers of elements than two, and with texts that are no numbers.
func counts() (wrongCounts, wrongNumbers [][]string) {
	wrongCounts = [][]string{nil, list("1"), list("1 1 1")}
	for _, s := range badNumbers() {
		wrongNumbers = append(wrongNumbers, []string{s, "1"}, []string{"1", s}, []string{s}, []string{"1", "1", s})
	}
	return wrongCounts, wrongNumbers
}

// TestForm checks which arguments are not well-formed, and that this error precedes the others.
func TestForm(t *testing.T) {
	s, cost, two, one := rows(2, "1 x0 + -1 >= 0", "1 x1 + -1 >= 0"), terms("x0"), list("-1 -1"), list("1")
	none := linear.Form{}
	for _, bad := range badSystems() {
		for _, l := range [][]string{two, one} {
			checkCombine(t, bad, l, none, api.ErrForm)
			checkFarkas(t, bad, l, api.ErrForm)
			checkLeast(t, bad, cost, l, l, api.ErrForm)
			checkRay(t, bad, cost, l, l, api.ErrForm)
		}
	}
	for _, bad := range badCosts() {
		for _, l := range [][]string{two, one} {
			checkLeast(t, s, bad, l, l, api.ErrForm)
			checkRay(t, s, bad, l, l, api.ErrForm)
		}
	}
	wrongCounts, wrongNumbers := counts()
	for _, bad := range wrongNumbers {
		checkCombine(t, s, bad, none, api.ErrForm)
		checkFarkas(t, s, bad, api.ErrForm)
		for _, l := range append(wrongCounts, two) {
			checkLeast(t, s, cost, bad, l, api.ErrForm)
			checkLeast(t, s, cost, l, bad, api.ErrForm)
			checkRay(t, s, cost, bad, l, api.ErrForm)
			checkRay(t, s, cost, l, bad, api.ErrForm)
		}
	}
}

// TestMany checks the numbers of values, multipliers and numbers of a ray, which precede what they prove.
func TestMany(t *testing.T) {
	s, cost, two := rows(2, longest+" x0 + -1 >= 0", "1 x1 + -1 >= 0"), terms("x0"), list("11 -1")
	wrongCounts, _ := counts()
	for _, bad := range wrongCounts {
		checkCombine(t, s, bad, linear.Form{}, api.ErrMany)
		checkFarkas(t, s, bad, api.ErrMany)
		checkLeast(t, s, cost, bad, two, api.ErrMany)
		checkLeast(t, s, cost, two, bad, api.ErrMany)
		checkRay(t, s, cost, bad, two, api.ErrMany)
		checkRay(t, s, cost, two, bad, api.ErrMany)
	}
	// Values and numbers of a ray belong to columns, and multipliers to rows.
	s = rows(3, "1 x0 + -1 >= 0", "-1 x0 >= 0")
	checkFarkas(t, s, list("1 1"), api.OK)
	checkFarkas(t, s, list("1 1 0"), api.ErrMany)
	s = rows(3, "1 x0 + -1 >= 0", "1 x1 + -1 >= 0")
	checkLeast(t, s, cost, list("1 1 0"), list("1 0"), api.OK)
	checkLeast(t, s, cost, list("1 1"), list("1 0"), api.ErrMany)
	checkLeast(t, s, cost, list("1 1 0"), list("1 0 0"), api.ErrMany)
	checkRay(t, s, terms("-x0"), list("1 1 0"), list("1 0 0"), api.OK)
	checkRay(t, s, terms("-x0"), list("1 1"), list("1 0 0"), api.ErrMany)
	checkRay(t, s, terms("-x0"), list("1 1 0"), list("1 0"), api.ErrMany)
}

// TestOrder checks that values that do not hold precede what else is wrong.
func TestOrder(t *testing.T) {
	s := rows(1, "1 x0 + -1 >= 0")
	for _, value := range []string{"0", "-1", "-" + longest} {
		checkLeast(t, s, terms("x0"), list(value), list("-1"), api.ErrBound)
		checkLeast(t, s, terms(longest+" x0"), list(value), list("-1"), api.ErrBound)
		checkLeast(t, rows(1, "2 x0 + -1 >= 0"), terms("x0"), list(value), list(longest), api.ErrBound)
		checkRay(t, s, terms("x0"), list(value), list("-1"), api.ErrBound)
		checkRay(t, rows(1, "2 x0 + -1 >= 0"), terms(longest+" x0"), list(value), list(longest), api.ErrBound)
	}
	checkLeast(t, s, terms("x0"), list("1"), list("-1"), api.ErrProof)
	checkRay(t, s, terms("x0"), list("1"), list("-1"), api.ErrProof)
}

// TestLongCombinations has products and sums of MaxDigits digits, and of one more.
func TestLongCombinations(t *testing.T) {
	for _, c := range []struct {
		what, mult string
		lines      []string
		want       api.Errno
	}{
		{"a product", "9", []string{longest[1:] + " x0 >= 0"}, api.OK},
		{"a product", "2", []string{longest + " x0 >= 0"}, api.ErrLong},
		{"a product of a Const", "2", []string{longest + " >= 0"}, api.ErrLong},
		{"a product of a Const", "-2", []string{"1 x0 + -" + longest + " = 0"}, api.ErrLong},
		{"a denominator of a product", "1/2", []string{"1/" + longest + " x0 >= 0"}, api.ErrLong},
		{"a denominator of a product", "1/2", []string{"1/" + longest[1:] + " x0 >= 0"}, api.OK},
		{"a sum", "1 1", []string{almost + " x0 >= 0", "1 x0 >= 0"}, api.OK},
		{"a sum", "1 1", []string{longest + " x0 >= 0", "1 x0 >= 0"}, api.ErrLong},
		{"a sum of Consts", "1 1", []string{"-" + almost + " >= 0", "-1 >= 0"}, api.OK},
		{"a sum of Consts", "1 1", []string{"-" + longest + " >= 0", "-1 >= 0"}, api.ErrLong},
		{"a partial sum", "1 1 1", []string{longest + " x0 >= 0", "1 x0 >= 0", "-1 x0 >= 0"}, api.ErrLong},
		{"partial sums in another order", "1 1 1", []string{longest + " x0 >= 0", "-1 x0 >= 0", "1 x0 >= 0"}, api.OK},
		{"the multiplier 0", "1 0", []string{longest + " x0 + -" + longest + " >= 0", longest + " x0 + -" + longest + " >= 0"}, api.OK},
		{"sums apart", "1 1", []string{longest + " x0 >= 0", longest + " x1 + -" + longest + " >= 0"}, api.OK},
	} {
		s, mult := rows(2, c.lines...), list(c.mult)
		sums, ok := plainCombination(s, mult)
		if ok != (c.want == api.OK) {
			t.Fatalf("the numbers of %s are not as this test says", c.what)
		}
		want := linear.Form{}
		proof := api.ErrProof
		if ok {
			want = formOf(sums)
		} else {
			proof = api.ErrLong
		}
		checkCombine(t, s, mult, want, c.want)
		if e := CheckFarkas(s, mult); ok && e != plainFarkas(s, mult) || !ok && e != api.ErrLong {
			t.Errorf("CheckFarkas for %s is %d", c.what, e)
		}
		if plainHolds(s, list("1 1")) {
			checkLeast(t, s, terms("-x1"), list("1 1"), mult, proof)
		}
	}
}

// TestLong has numbers that are too long on the way to a proof, and one that is just short enough.
func TestLong(t *testing.T) {
	s := rows(2, "2 x0 + -1 >= 0", "1 x0 + 1 x1 >= 0")
	big, half := "1"+strings.Repeat("0", api.MaxDigits-1), "5"+strings.Repeat("0", api.MaxDigits-1)
	// The values.
	checkLeast(t, s, terms("x0"), []string{half, "0"}, list("0 0"), api.ErrLong)
	checkRay(t, s, terms("x0"), []string{half, "0"}, list("0 0"), api.ErrLong)
	checkLeast(t, s, nil, []string{big, "0"}, list("0 0"), api.OK)
	checkRay(t, s, terms("-x0"), []string{big, "0"}, list("1 0"), api.OK)
	checkLeast(t, s, terms("x0"), []string{half, "-1"}, list("0 0"), api.ErrBound)
	checkLeast(t, s, terms("x0"), []string{longest, "1"}, []string{longest, "0"}, api.ErrLong)
	// A row that is violated precedes one whose value is too long, and the other way round.
	checkRay(t, rows(2, "1 x1 + -1 >= 0", "2 x0 >= 0"), nil, []string{longest, "0"}, list("0 0"), api.ErrBound)
	checkRay(t, rows(2, "2 x0 >= 0", "1 x1 + -1 >= 0"), nil, []string{longest, "0"}, list("0 0"), api.ErrLong)
	// The combination, even if the multipliers are not admissible.
	values := list("1/2 0")
	checkLeast(t, s, terms("x0"), values, []string{longest, "0"}, api.ErrLong)
	checkLeast(t, s, terms("x0"), values, []string{"-" + longest, "0"}, api.ErrLong)
	checkFarkas(t, s, []string{"-" + longest, "0"}, api.ErrLong)
	// The cost of the values.
	checkLeast(t, s, []api.Term{{Col: 0, Coef: longest}}, list("11 0"), list("0 0"), api.ErrLong)
	checkLeast(t, s, []api.Term{{Col: 0, Coef: longest}}, list("1 0"), list("0 0"), api.ErrProof)
	checkLeast(t, s, []api.Term{{Col: 0, Coef: longest}, {Col: 1, Coef: "1"}}, list("1 1"), list("0 0"), api.ErrLong)
	checkLeast(t, s, []api.Term{{Col: 0, Coef: longest}, {Col: 1, Coef: "1"}}, list("11 0"), list("-1 0"), api.ErrLong)
	// The rows for the ray, even if others decrease or a number is negative. The Consts of the rows do not count.
	checkRay(t, s, terms("-x0"), values, []string{longest, "0"}, api.ErrLong)
	checkRay(t, s, terms("-x0"), values, []string{"-" + longest, "0"}, api.ErrLong)
	checkRay(t, s, terms("-x0"), values, []string{"1", longest}, api.ErrLong)
	checkRay(t, s, terms("-x0"), values, []string{"-1", longest}, api.ErrProof)
	checkRay(t, rows(2, "1 x1 >= 0", "2 x0 >= 0"), terms("-x0"), list("0 0"), []string{longest, "-1"}, api.ErrLong)
	checkRay(t, rows(2, "1 x0 + "+longest+" >= 0"), terms("-x0"), list("0 0"), list("1 0"), api.OK)
	checkRay(t, rows(2, "-1 x0 + "+longest+" >= 0"), terms("-x1"), list("0 0"), list("0 1"), api.OK)
	// The cost of the ray, but not that of the values.
	long := []api.Term{{Col: 0, Coef: "-" + longest}}
	checkRay(t, s, long, values, list("11 0"), api.ErrLong)
	checkRay(t, s, long, values, list("-11 0"), api.ErrLong)
	checkRay(t, s, long, list("11 0"), list("1 0"), api.OK)
	checkRay(t, s, []api.Term{{Col: 0, Coef: "-" + longest}, {Col: 1, Coef: "-1"}}, values, list("1 1"), api.ErrLong)
	checkRay(t, s, []api.Term{{Col: 0, Coef: "-" + almost}, {Col: 1, Coef: "-1"}}, values, list("1 1"), api.OK)
}

// TestArgumentsAreKept checks that the lists that are passed do not change.
func TestArgumentsAreKept(t *testing.T) {
	s, cost := rows(2, "1 x0 + -1 >= 0", "1 x1 + -1 >= 0"), append(terms("x0"), api.Term{Col: 9, Coef: "9"})
	values, mult := list("1 1 9"), list("1 0 9")
	checkLeast(t, s, cost[:1], values[:2], mult[:2], api.OK)
	checkFarkas(t, s, mult[:2], api.ErrProof)
	checkRay(t, s, cost[:1], values[:2], mult[:2], api.ErrProof)
	if !slices.Equal(values, list("1 1 9")) || !slices.Equal(mult, list("1 0 9")) || cost[1] != (api.Term{Col: 9, Coef: "9"}) {
		t.Errorf("the arguments were changed to %v, %q, %q", cost, values, mult)
	}
}

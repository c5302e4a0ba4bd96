package presolve

import (
	"math"
	"slices"
	"strconv"
	"strings"
	"testing"

	"cellarer/api"
)

// TestFormErrors checks that what system.Check rejects is not well-formed, even if numbers would be too long.
func TestFormErrors(t *testing.T) {
	long := rows(2, "1/10 x0 + -"+power+" = 0")
	for _, s := range []api.System{
		{Cols: -1}, {Cols: api.MaxCols + 1}, {Cols: math.MinInt}, {Cols: math.MaxInt}, {Cols: 1, Rows: []api.Row{{}}},
		{Cols: 1, Rows: slices.Repeat(rows(1, "0 >= 0").Rows, api.MaxRows+1)}, {Cols: 0, Rows: long.Rows},
		{Cols: api.MaxCols + 1, Rows: long.Rows}, {Cols: 2, Rows: append(slices.Clone(long.Rows), api.Row{Const: "2/4"})},
		{Cols: 1, Rows: []api.Row{{Const: "0", Terms: []api.Term{{Col: 0, Coef: "0"}}, Eq: true}}},
		{Cols: 2, Rows: []api.Row{{Const: "0", Terms: []api.Term{{Col: 1, Coef: "1"}, {Col: 0, Coef: "-1"}}, Eq: true}}},
		{Cols: 2, Rows: []api.Row{{Const: "0", Terms: []api.Term{{Col: 0, Coef: "1"}, {Col: 0, Coef: "-1"}}, Eq: true}}},
		{Cols: 2, Rows: []api.Row{{Const: "0", Terms: []api.Term{{Col: 2, Coef: "1"}}, Eq: true}}},
		{Cols: 2, Rows: []api.Row{{Const: "0", Terms: []api.Term{{Col: -1, Coef: "1"}}, Eq: true}}},
		{Cols: 2, Rows: []api.Row{{Const: longest + "0", Terms: []api.Term{{Col: 0, Coef: "1"}}, Eq: true}}},
	} {
		checkError(t, s, api.ErrForm)
	}
	checkError(t, long, api.ErrLong)
}

// TestLong has numbers of MaxDigits digits and of one more among all that are calculated.
func TestLong(t *testing.T) {
	nine, eight := digits("9"), digits("8")
	less := "-" + longest[1:] // 1 more than the opposite of power
	for _, c := range []struct {
		what  string
		lines []string
		want  api.Errno
	}{
		{"a fixed value", []string{"1/10 x0 + -" + power + " = 0"}, api.ErrLong},
		{"a fixed value", []string{"1/9 x0 + -" + power + " = 0"}, api.OK},
		{"the denominator of a fixed value", []string{power + " x0 + -1/10 = 0"}, api.ErrLong},
		{"the denominator of a fixed value", []string{power + " x0 + -1/9 = 0"}, api.OK},
		{"a negative value, which is not fixed", []string{"1/10 x0 + " + power + " = 0"}, api.OK},
		{"a value of a row that is no equality", []string{"1/10 x0 + -" + power + " >= 0"}, api.OK},
		{"a ratio", []string{power + " x0 + -1/10 x1 = 0"}, api.ErrLong},
		{"a ratio", []string{power + " x0 + -1/9 x1 = 0"}, api.OK},
		{"the denominator of a ratio", []string{"1/10 x0 + -" + power + " x1 = 0"}, api.ErrLong},
		{"the denominator of a ratio", []string{"1/9 x0 + -" + power + " x1 = 0"}, api.OK},
		{"a ratio of numbers with the same sign", []string{power + " x0 + 1/10 x1 = 0"}, api.OK},
		{"a ratio in a row with a Const", []string{power + " x0 + -1/10 x1 + 1 = 0"}, api.OK},
		{"the factor of a fixed column", []string{"1/10 x0 = 0", power + " x0 + 1 x1 >= 0"}, api.ErrLong},
		{"the factor of a fixed column", []string{"1/9 x0 = 0", power + " x0 + 1 x1 >= 0"}, api.OK},
		{"the factor of a tied column", []string{"1/10 x0 + -1/10 x1 = 0", power + " x1 + 1 >= 0"}, api.ErrLong},
		{"the factor of a tied column", []string{"1/9 x0 + -1/9 x1 = 0", power + " x1 + 1 >= 0"}, api.OK},
		{"the factor of a row that becomes empty", []string{"1/10 x0 = 0", power + " x0 >= 0"}, api.ErrLong},
		{"the factor of a row that becomes empty", []string{"1/9 x0 = 0", power + " x0 >= 0"}, api.OK},
		{"a product for a Const", []string{"1 x0 + -10 = 0", power + " x0 + 1 x1 >= 0"}, api.ErrLong},
		{"a product for a Const", []string{"1 x0 + -9 = 0", power + " x0 + 1 x1 >= 0"}, api.OK},
		{"a product for a Const that would not be too long itself", []string{"1 x0 + -10 = 0", power + " x0 + -" + nine + " >= 0"}, api.ErrLong},
		{"a difference for a Const", []string{"1 x0 + -1 = 0", power + " x0 + " + nine + " >= 0"}, api.ErrLong},
		{"a difference for a Const", []string{"1 x0 + -1 = 0", power + " x0 + " + eight + " >= 0"}, api.OK},
		{"a product for a coefficient", []string{"10 x0 + -1 x1 = 0", power + " x1 + 1 >= 0"}, api.ErrLong},
		{"a product for a coefficient", []string{"9 x0 + -1 x1 = 0", power + " x1 + 1 >= 0"}, api.OK},
		{"a product for a coefficient that would not be too long itself", []string{"10 x0 + -1 x1 = 0", "-" + nine + " x0 + " + power + " x1 + 1 >= 0"}, api.ErrLong},
		{"a difference for a coefficient", []string{"1 x0 + -1 x1 = 0", nine + " x0 + " + power + " x1 + 1 >= 0"}, api.ErrLong},
		{"a difference for a coefficient", []string{"1 x0 + -1 x1 = 0", eight + " x0 + " + power + " x1 + 1 >= 0"}, api.OK},
		{"a product for a weight", []string{"1 x0 = 0", power + " x0 + 1 x1 = 0", "10 x1 + 1 x2 >= 0"}, api.ErrLong},
		{"a product for a weight", []string{"1 x0 = 0", power + " x0 + 1 x1 = 0", "9 x1 + 1 x2 >= 0"}, api.OK},
		{"a difference for a weight", []string{"1 x0 = 0", power + " x0 + 1 x1 = 0", "-" + power + " x0 + 9 x1 + 1 x2 >= 0"}, api.ErrLong},
		{"a difference for a weight", []string{"1 x0 = 0", power + " x0 + 1 x1 = 0", less + " x0 + 9 x1 + 1 x2 >= 0"}, api.OK},
		{"a product for a weight of a row that becomes empty", []string{"1 x0 = 0", power + " x0 + 1 x1 = 0", "10 x1 >= 0"}, api.ErrLong},
		{"a product for a weight of a row that becomes empty", []string{"1 x0 = 0", power + " x0 + 1 x1 = 0", "9 x1 >= 0"}, api.OK},
		{"a product for a weight of an equality that is used up", []string{"1 x0 = 0", power + " x0 + 1 x1 = 0", "10 x1 + 1 x2 + -3 = 0"}, api.ErrLong},
		{"a product for a weight of an equality that is used up", []string{"1 x0 = 0", power + " x0 + 1 x1 = 0", "9 x1 + 1 x2 + -3 = 0"}, api.OK},
		{"no step at all", []string{longest + " x0 + " + longest + " x1 + 1/" + longest + " >= 0", "1/10 x0 + 1/10 x1 + 10 = 0"}, api.OK},
	} {
		if _, _, e := checkPlain(t, newDrawn(0), rows(3, c.lines...)); e != c.want {
			t.Errorf("%s: Reduce returns %d for %s, want %d", c.what, e, brief(c.lines), c.want)
		}
	}
}

// TestLongBack has values with products of MaxDigits digits and of one more.
func TestLongBack(t *testing.T) {
	for _, c := range []struct {
		lines  []string
		values []string
		want   []string // none if a product is too long
	}{
		{[]string{"9 x0 + -1 x1 = 0", "1 x0 + -1 >= 0"}, []string{power}, []string{power, digits("9"), "0"}},
		{[]string{"10 x0 + -1 x1 = 0", "1 x0 + -1 >= 0"}, []string{power}, nil},
		{[]string{"10 x0 + -1 x1 = 0", "1 x0 + -1 >= 0"}, []string{"1/" + power}, []string{"1/" + power, "1/" + power[:api.MaxDigits-1], "0"}},
		{[]string{"1 x0 + -10 x1 = 0", "1 x0 + -1 >= 0"}, []string{"1/" + power}, nil},
		{[]string{"1 x0 + -9 x1 = 0", "1 x0 + -1 >= 0"}, []string{"-1/" + power}, []string{"-1/" + power, "-1/" + digits("9"), "0"}},
		{[]string{"10 x0 + -1 x1 = 0", "1 x1 + -10 x2 = 0", "1 x0 + -1 >= 0"}, []string{power}, nil},
		{[]string{"3 x0 + -1 x1 = 0", "3 x1 + -1 x2 = 0", "1 x0 + -1 >= 0"}, []string{power}, []string{power, digits("3"), digits("9")}},
		{[]string{"3 x0 + -1 x1 = 0", "4 x1 + -1 x2 = 0", "1 x0 + -1 >= 0"}, []string{power}, nil},
		{[]string{"1 x0 + -1 x1 = 0", "1 x2 + -" + longest + " = 0", "1 x0 + -1 >= 0"}, []string{longest}, []string{longest, longest, longest}},
	} {
		_, u := reduced(t, rows(3, c.lines...))
		want := api.OK
		if c.want == nil {
			want = api.ErrLong
		}
		checkList(t, "Back", u.Back, c.values, c.want, want)
	}
}

// TestLongLift has multipliers with products and partial sums of MaxDigits digits and of one more.
func TestLongLift(t *testing.T) {
	nine, opposite := digits("9"), "-"+digits("9")
	for _, c := range []struct {
		weights string // of the first row, in the others
		mult    []string
		want    string // the multiplier of the first row, and nothing if a number is too long
	}{
		{"9", []string{power}, nine},
		{"10", []string{power}, ""},
		{"-9", []string{"-" + power}, nine},
		{"1/10", []string{"1/" + power}, ""},
		{"1/9", []string{"1/" + power}, "1/" + nine},
		{"1 1", []string{nine, power}, ""},
		{"1 1", []string{nine, longest[1:]}, "9" + longest[1:]},
		{"1 1 1", []string{nine, power, opposite}, ""},
		{"1 1 1", []string{nine, opposite, power}, power},
		{"1 1 1", []string{opposite, power, nine}, power},
		{"10 -1 1", []string{power, power, "1"}, ""},
		{"10 1 -1", []string{"0", longest, longest}, "0"},
	} {
		lines := []string{"-1 x0 = 0"}
		for i, weight := range list(c.weights) {
			lines = append(lines, weight+" x0 + 1 x"+strconv.Itoa(i+1)+" >= 0")
		}
		_, u := reduced(t, rows(4, lines...))
		if c.want == "" {
			checkList(t, "Lift", u.Lift, c.mult, nil, api.ErrLong)
		} else {
			checkList(t, "Lift", u.Lift, c.mult, append([]string{c.want}, c.mult...), api.OK)
		}
	}
}

// TestLongDrawn compares drawn systems with long numbers with the plain reduction.
func TestLongDrawn(t *testing.T) {
	d := newDrawn(5)
	found := map[api.Errno]int{}
	for range 1500 {
		s := d.system(1+d.Intn(4), 1+d.Intn(5))
		for _, r := range s.Rows {
			for j, x := range r.Terms {
				if d.Intn(2) == 0 {
					r.Terms[j].Coef = x.Coef[:len(x.Coef)-1] + strings.Repeat(x.Coef[len(x.Coef)-1:], 1+d.Intn(api.MaxDigits-1))
				}
				r.Terms[j].Coef = number(r.Terms[j].Coef).RatString()
			}
		}
		p := plainOf(s)
		if p.isLong {
			checkError(t, s, api.ErrLong)
			found[api.ErrLong]++
			continue
		}
		r, u := reduced(t, s)
		if want, _ := p.system(); !same(r, want) {
			t.Fatalf("Reduce(%s) is %s, want %s", brief(s), brief(r), brief(want))
		}
		for _, x := range []struct {
			name    string
			operate func([]string) ([]string, api.Errno)
			plain   func([]string) ([]string, bool)
			numbers []string
		}{{"Back", u.Back, p.back, d.numbers(r.Cols)}, {"Lift", u.Lift, p.lift, d.numbers(len(r.Rows))}} {
			want, ok := x.plain(x.numbers)
			if ok {
				checkList(t, x.name, x.operate, x.numbers, want, api.OK)
				found[api.OK]++
			} else {
				checkList(t, x.name, x.operate, x.numbers, nil, api.ErrLong)
				found[-1]++
			}
		}
	}
	if found[api.OK] < 500 || found[api.ErrLong] < 100 || found[-1] < 3 {
		t.Errorf("the drawn systems have the errors %v", found)
	}
}

// TestMost has as many rows and columns as there may be.
func TestMost(t *testing.T) {
	var fixed, chain, many []string
	for i := range api.MaxRows {
		fixed = append(fixed, "1 x"+strconv.Itoa(i)+" + -"+strconv.Itoa(i+1)+" = 0")
		many = append(many, strconv.Itoa(i+1)+" x1 + 1 x2 >= 0")
		if i > 0 {
			chain = append(chain, "1 x"+strconv.Itoa(i-1)+" + -1 x"+strconv.Itoa(i)+" = 0")
		}
	}
	r, u := reduced(t, rows(api.MaxCols, fixed...))
	values, _ := u.Back(nil)
	if !same(r, rows(0)) || len(u.Gone()) != api.MaxCols || len(values) != api.MaxCols || values[0] != "1" || values[api.MaxCols-1] != "2048" {
		t.Errorf("as many fixed columns as possible are reduced to %s, with the values %s", brief(r), brief(values))
	}
	slices.Reverse(chain)
	r, u = reduced(t, rows(api.MaxCols, append(chain, "1 x0 + 1 x2047 + -6 = 0")...))
	values, _ = u.Back(nil)
	if !same(r, rows(0)) || len(u.Gone()) != api.MaxCols || !slices.Equal(values, slices.Repeat(list("3"), api.MaxCols)) {
		t.Errorf("a chain of all columns is reduced to %s, with the values %s", brief(r), brief(values))
	}
	r, u = reduced(t, rows(3, many...))
	if r.Cols != 2 || len(r.Rows) != api.MaxRows || len(u.Rows()) != api.MaxRows || !slices.Equal(u.Gone(), []int{0}) {
		t.Errorf("a system with as many rows as possible is reduced to %s", brief(r))
	}
	checkList(t, "Lift", u.Lift, slices.Repeat(list("5"), api.MaxRows), slices.Repeat(list("5"), api.MaxRows), api.OK)
	checkError(t, rows0(api.MaxRows+1), api.ErrForm)
	if r, _ := reduced(t, rows0(api.MaxRows)); !same(r, rows(0)) {
		t.Errorf("as many empty rows as possible are reduced to %s", brief(r))
	}
}

// rows0 returns a system without columns, with many rows that are satisfied.
func rows0(count int) api.System {
	return api.System{Rows: slices.Repeat(rows(0, "1 >= 0").Rows, count)}
}

package linear

import (
	"math"
	"math/big"
	"math/rand"
	"slices"
	"strings"
	"testing"

	"cellarer/api"
)

const last = api.MaxCols - 1

// The integers with exactly MaxDigits digits, and with one more.
var (
	longest = strings.Repeat("9", api.MaxDigits)
	tooLong = "1" + strings.Repeat("0", api.MaxDigits)
)

// form returns a form as it stands: the numbers are the columns and coefficients of its terms.
func form(c string, terms ...api.Term) Form {
	return Form{terms, c}
}

func term(coef string, col int) api.Term {
	return api.Term{Col: col, Coef: coef}
}

func zero() Form {
	return form("0")
}

// same reports whether two forms are equal, where no terms may be nil or empty.
func same(a, b Form) bool {
	return a.Const == b.Const && slices.Equal(a.Terms, b.Terms)
}

// badNumbers are texts that are not those of numbers.
func badNumbers() []string {
	return []string{"", "x", "-", "-0", "+1", "01", "2/4", "1/1", "0/2", "1/0", "1/-2", " 1", "1 ", tooLong, "-" + tooLong, "1/" + tooLong}
}

func badColumns() []int {
	return []int{-1, math.MinInt, api.MaxCols, math.MaxInt}
}

// badForms are forms that are not valid, and what Check says of them.
func badForms() map[api.Errno][]Form {
	bad := map[api.Errno][]Form{
		api.ErrForm: {
			{},
			form("1", term("0", 0)),
			form("1", term("1", 3), term("1", 3)),
			form("1", term("1", 3), term("-1", 3)),
			form("1", term("1", 3), term("1", 2)),
			form("1", term("1", 0), term("1", 5), term("1", 4), term("1", 9)),
			form("1", term("1", 0), term("0", 1), term("1", 2)),
			// A number that is none precedes a column that is none, wherever they are.
			form("x", term("1", -1)),
			form("1", term("1", api.MaxCols), term("x", 0)),
			form("1", term("x", -1)),
		},
		api.ErrRange: {
			form("1", term("1", 3), term("1", 2), term("1", api.MaxCols)),
			form("1", term("0", -1)),
			form("0", term("0", 0), term("1", -5)),
		},
	}
	for _, s := range badNumbers() {
		bad[api.ErrForm] = append(bad[api.ErrForm], form(s), form(s, term("1", 0)), form("1", term(s, 0)), form("1", term("1", 0), term(s, 1)))
	}
	for _, col := range badColumns() {
		bad[api.ErrRange] = append(bad[api.ErrRange], form("1", term("1", col)), form("1", term("2", 0), term("1", col)), form("1", term("1", col), term("2", 0)))
	}
	return bad
}

// drawn makes forms over few columns.
type drawn struct{ *rand.Rand }

func newDrawn(seed int64) drawn {
	return drawn{rand.New(rand.NewSource(seed))}
}

func (d drawn) number() string {
	n := int64(d.Intn(9) - 4)
	if d.Intn(8) == 0 {
		n *= 1e15
	}
	return big.NewRat(n, int64(1+d.Intn(4))).RatString()
}

func (d drawn) terms() []api.Term {
	terms := make([]api.Term, 0, 20)
	for range d.Intn(8) {
		terms = append(terms, term(d.number(), []int{0, 1, 2, 3, 4, last}[d.Intn(6)]))
	}
	return terms
}

// form returns a valid form, and the same as coefficients of columns, with that of MaxCols for Const.
func (d drawn) form() (Form, plain) {
	p := newPlain(d.number(), d.terms())
	return p.form(), p
}

// plain is a form as the coefficients of all columns, with Const at the end.
type plain [api.MaxCols + 1]*big.Rat

func number(s string) *big.Rat {
	x, _ := new(big.Rat).SetString(s)
	return x
}

func newPlain(c string, terms []api.Term) plain {
	var p plain
	for col := range p {
		p[col] = new(big.Rat)
	}
	p[api.MaxCols].Set(number(c))
	for _, t := range terms {
		p[t.Col].Add(p[t.Col], number(t.Coef))
	}
	return p
}

// form returns the form that p is.
func (p plain) form() Form {
	f := Form{Const: p[api.MaxCols].RatString()}
	for col, x := range p[:api.MaxCols] {
		if x.Sign() != 0 {
			f.Terms = append(f.Terms, term(x.RatString(), col))
		}
	}
	return f
}

// plus returns p + by * other.
func (p plain) plus(other plain, by *big.Rat) plain {
	var out plain
	for col := range p {
		out[col] = new(big.Rat).Mul(other[col], by)
		out[col].Add(out[col], p[col])
	}
	return out
}

func (p plain) eval(values []string) *big.Rat {
	total := new(big.Rat).Set(p[api.MaxCols])
	for col, s := range values {
		total.Add(total, new(big.Rat).Mul(p[col], number(s)))
	}
	return total
}

func check(t *testing.T, what string, got Form, e api.Errno, want Form) {
	t.Helper()
	if !same(got, want) || e != api.OK {
		t.Fatalf("%s is %v, %d, want %v", what, got, e, want)
	}
	if e := Check(got); e != api.OK {
		t.Fatalf("%s, which is %v, is not valid: %d", what, got, e)
	}
}

// checkError reports an error if an operation did not fail as it should, with the zero form.
func checkError(t *testing.T, what string, got Form, e, want api.Errno) {
	t.Helper()
	if got.Const != "" || len(got.Terms) != 0 || e != want {
		t.Errorf("%s is %v, %d, want the error %d", what, got, e, want)
	}
}

func TestOf(t *testing.T) {
	f, e := Of("5", term("2", 3), term("-1/2", 0), term("1", 3), term("1", 1), term("-1", 1))
	check(t, "the form of the example", f, e, form("5", term("-1/2", 0), term("3", 3)))
	f, e = Of("0")
	check(t, "the form without terms", f, e, zero())
	f, e = Of("-7/2", term("0", 5), term("0", last), term("0", 5))
	check(t, "the form of terms with 0", f, e, form("-7/2"))
	f, e = Of("1", term("1", 0), term("-1", 0), term("2/3", 0), term("1", last))
	check(t, "the form whose sum begins again", f, e, form("1", term("2/3", 0), term("1", last)))
	f, e = Of(longest, term("-"+longest, 1), term(longest, 0))
	check(t, "the form with the longest numbers", f, e, form(longest, term(longest, 0), term("-"+longest, 1)))
	d := newDrawn(1)
	for range 200 {
		c, terms := d.number(), d.terms()
		f, e := Of(c, terms...)
		check(t, "a drawn form", f, e, newPlain(c, terms).form())
	}
}

func TestOfErrors(t *testing.T) {
	for _, s := range badNumbers() {
		for _, c := range []Form{form(s), form(s, term("1", -1)), form("1", term(s, 0)), form("1", term(s, -1)), form("1", term("1", api.MaxCols), term("1", 0), term(s, 0)), form(longest, term(longest, 0), term("1", 0), term(s, 1))} {
			f, e := Of(c.Const, c.Terms...)
			checkError(t, "Of a text that is no number", f, e, api.ErrForm)
		}
	}
	for _, col := range badColumns() {
		for _, c := range []Form{form("1", term("1", col)), form("1", term("0", col)), form("1", term(longest, 0), term("1", 0), term("1", col))} {
			f, e := Of(c.Const, c.Terms...)
			checkError(t, "Of a column that is none", f, e, api.ErrRange)
		}
	}
	// The coefficients of a column are added in the order of the terms, those of other columns have no part in it.
	f, e := Of("1", term(longest, 2), term("1", 2))
	checkError(t, "Of a sum that is too long", f, e, api.ErrLong)
	f, e = Of("1", term(longest, 2), term("-1", 7), term("1", 2), term("-1", 2))
	checkError(t, "Of a partial sum that is too long", f, e, api.ErrLong)
	f, e = Of(longest, term(longest, 2), term("1", 7), term("-1", 2), term("1", 2), term(longest, 3))
	check(t, "Of partial sums that are not too long", f, e, form(longest, term(longest, 2), term(longest, 3), term("1", 7)))
}

func TestCheck(t *testing.T) {
	for _, f := range []Form{
		zero(), form("1/2"), form("-" + longest), form("0", term("1", 0)), form("0", term("-1", last)), form("3", term("1", 0), term("-5/3", 1), term(longest, last)),
	} {
		if e := Check(f); e != api.OK {
			t.Errorf("Check of %v is %d", f, e)
		}
	}
	for want, forms := range badForms() {
		for _, f := range forms {
			if e := Check(f); e != want {
				t.Errorf("Check of %v is %d, want %d", f, e, want)
			}
		}
	}
}

func TestAddAndScale(t *testing.T) {
	d := newDrawn(2)
	for range 200 {
		f, p := d.form()
		g, q := d.form()
		by := d.number()
		got, e := Add(f, g)
		check(t, "a sum", got, e, p.plus(q, big.NewRat(1, 1)).form())
		got, e = Scale(f, by)
		check(t, "a multiple", got, e, newPlain("0", nil).plus(p, number(by)).form())
	}
	f := form("1/2", term("3", 0), term("-1", 5))
	got, e := Scale(f, "0")
	check(t, "0 times a form", got, e, zero())
	opposite, _ := Scale(f, "-1")
	got, e = Add(f, opposite)
	check(t, "a form minus itself", got, e, zero())
	got, e = Add(form(longest, term("-"+longest, 1)), form("-1", term("1", 1)))
	check(t, "the sum of long numbers", got, e, form(longest[1:]+"8", term("-"+longest[1:]+"8", 1)))
}

func TestPut(t *testing.T) {
	f := form("5", term("-1/2", 0), term("3", 3))
	for _, c := range []struct {
		col      int
		by, want Form
	}{
		{3, form("2", term("1", 1)), form("11", term("-1/2", 0), term("3", 1))},
		{3, form("0", term("1", 3)), f},
		{3, form("1", term("1/6", 0), term("2", 3)), form("8", term("6", 3))},
		{3, zero(), form("5", term("-1/2", 0))},
		{0, form("10"), form("0", term("3", 3))},
		{7, form(longest, term(longest, 7)), f},
		{last, zero(), f},
	} {
		got, e := Put(f, c.col, c.by)
		check(t, "Put", got, e, c.want)
	}
	d := newDrawn(3)
	for range 200 {
		f, p := d.form()
		by, q := d.form()
		col := []int{0, 1, 2, 3, 4, 5, last}[d.Intn(7)]
		coef := new(big.Rat).Set(p[col])
		p[col].SetInt64(0)
		got, e := Put(f, col, by)
		check(t, "Put of drawn forms", got, e, p.plus(q, coef).form())
	}
}

func TestCoef(t *testing.T) {
	f := form("5", term("-1/2", 0), term("3", 3), term("1", last))
	for col, want := range map[int]string{0: "-1/2", 1: "0", 2: "0", 3: "3", 4: "0", last: "1", api.MaxCols: "0", -1: "0", math.MaxInt: "0", math.MinInt: "0"} {
		if got := Coef(f, col); got != want {
			t.Errorf("Coef of column %d is %q, want %q", col, got, want)
		}
	}
	for _, forms := range badForms() {
		for _, f := range forms {
			for _, at := range append(f.Terms, term("1", 0)) {
				if got := Coef(f, at.Col); got != "0" {
					t.Errorf("Coef of column %d of %v is %q, want 0", at.Col, f, got)
				}
			}
		}
	}
}

func TestEval(t *testing.T) {
	for _, c := range []struct {
		f      Form
		values []string
		want   string
	}{
		{form("5", term("-1/2", 0), term("3", 3)), []string{"4", "9", "9", "1"}, "6"},
		{form("5", term("-1/2", 0), term("3", 3)), []string{"4", "9", "9", "1", "7", "8"}, "6"},
		{form("-5/3"), nil, "-5/3"},
		{zero(), []string{"1"}, "0"},
		{form("-1", term("1/2", 0), term("1/3", 1)), []string{"1", "3/2"}, "0"},
		{form("1", term(longest, 0), term("-1", 1)), []string{"0", "-" + longest[1:] + "8"}, longest},
		{form("-1", term(longest, 0), term("1", 1)), []string{"1", "1"}, longest},
	} {
		if got, e := Eval(c.f, c.values); got != c.want || e != api.OK {
			t.Errorf("Eval of %v for %q is %q, %d, want %q", c.f, c.values, got, e, c.want)
		}
	}
}

func TestEvalErrors(t *testing.T) {
	f := form("5", term("1", 0), term("3", 2))
	for _, s := range badNumbers() {
		for _, values := range [][]string{{s, "1", "1"}, {"1", s, "1"}, {"1", "1", "1", s}, {s}, {longest, "1", longest, s}} {
			if got, e := Eval(f, values); got != "" || e != api.ErrForm {
				t.Errorf("Eval for %q is %q, %d, want ErrForm", values, got, e)
			}
		}
	}
	for _, c := range []struct {
		f      Form
		values []string
		want   api.Errno
	}{
		{f, nil, api.ErrRange},
		{f, []string{"1", "1"}, api.ErrRange},
		{form(longest, term("1", 0), term("1", 1)), []string{"1"}, api.ErrRange},
		{form("1", term("1", last)), []string{"1"}, api.ErrRange},
		{form("1", term("10", 0)), []string{longest}, api.ErrLong},
		{form("1", term("1", 0)), []string{longest}, api.ErrLong},
		{form("-1", term("10", 0), term("-10", 1)), []string{longest, longest}, api.ErrLong},
		// The sum begins with Const, and goes on from term to term.
		{form(longest, term("1", 0), term("-1", 1)), []string{"1", "1"}, api.ErrLong},
	} {
		if got, e := Eval(c.f, c.values); got != "" || e != c.want {
			t.Errorf("Eval of %v for %q is %q, %d, want %d", c.f, c.values, got, e, c.want)
		}
	}
	for _, forms := range badForms() {
		for _, f := range forms {
			if got, e := Eval(f, []string{"1"}); got != "" || e != api.ErrForm {
				t.Errorf("Eval of %v is %q, %d, want ErrForm", f, got, e)
			}
		}
	}
}

func TestFormErrors(t *testing.T) {
	good := form("1", term("1", 0))
	for _, forms := range badForms() {
		for _, bad := range forms {
			f, e := Add(bad, good)
			checkError(t, "Add of a form that is not valid", f, e, api.ErrForm)
			f, e = Add(good, bad)
			checkError(t, "Add of a form that is not valid", f, e, api.ErrForm)
			f, e = Scale(bad, "1")
			checkError(t, "Scale of a form that is not valid", f, e, api.ErrForm)
			for _, col := range []int{0, 7, -1} {
				f, e = Put(bad, col, good)
				checkError(t, "Put into a form that is not valid", f, e, api.ErrForm)
				f, e = Put(good, col, bad)
				checkError(t, "Put of a form that is not valid", f, e, api.ErrForm)
			}
		}
	}
	for _, s := range badNumbers() {
		f, e := Scale(good, s)
		checkError(t, "Scale by a text that is no number", f, e, api.ErrForm)
	}
	long := form(longest, term(longest, 0))
	for _, col := range badColumns() {
		f, e := Put(long, col, long)
		checkError(t, "Put in the place of a column that is none", f, e, api.ErrRange)
	}
}

func TestLongResults(t *testing.T) {
	for _, c := range []struct{ a, b Form }{
		{form(longest), form("1")},
		{form("0", term(longest, 4)), form("0", term("1", 4))},
		{form("0", term("1", 1), term("1/"+longest, 4)), form("0", term("1/2", 4))},
	} {
		f, e := Add(c.a, c.b)
		checkError(t, "a sum with a number that is too long", f, e, api.ErrLong)
	}
	for _, a := range []Form{form(longest), form("0", term(longest, 4)), form("0", term("1", 1), term("-"+longest, 4))} {
		f, e := Scale(a, "10")
		checkError(t, "a multiple with a number that is too long", f, e, api.ErrLong)
	}
	for _, c := range []struct{ f, by Form }{
		{form("0", term("10", 3)), form(longest)},
		{form("0", term("10", 3)), form("0", term(longest, 1))},
		{form("1", term("1", 3)), form(longest)},
		{form("0", term("1", 1), term("1", 3)), form("0", term(longest, 1))},
		// The products come before the sums, which would be short.
		{form("-"+longest, term("2", 3)), form(longest)},
		{form("0", term("-"+longest, 1), term("2", 3)), form("0", term(longest, 1))},
	} {
		f, e := Put(c.f, 3, c.by)
		checkError(t, "Put with a number that is too long", f, e, api.ErrLong)
	}
	f, e := Put(form("-"+longest, term("-"+longest, 1), term("1", 3)), 3, form(longest, term(longest, 1)))
	check(t, "Put with long numbers", f, e, zero())
}

// TestConsequences checks what the values of sums, and of forms in the place of columns, are.
func TestConsequences(t *testing.T) {
	d := newDrawn(4)
	for range 200 {
		f, p := d.form()
		by, q := d.form()
		values := make([]string, api.MaxCols)
		for col := range values {
			values[col] = "0"
			if col < 5 || col == last {
				values[col] = d.number()
			}
		}
		total, _ := Add(f, by)
		want := new(big.Rat).Add(p.eval(values), q.eval(values)).RatString()
		if got, e := Eval(total, values); got != want || e != api.OK {
			t.Fatalf("the value of the sum of %v and %v is %q, %d, want %q", f, by, got, e, want)
		}
		col := d.Intn(6)
		put, _ := Put(f, col, by)
		got, e := Eval(put, values)
		values[col], _ = Eval(by, values)
		if want := p.eval(values).RatString(); got != want || e != api.OK {
			t.Fatalf("the value of %v with %v in the place of %d is %q, %d, want %q", f, by, col, got, e, want)
		}
	}
}

// TestMemory checks that arguments, and their spare capacity, stay as they are, and that no result shares memory with them.
func TestMemory(t *testing.T) {
	spare := func(terms ...api.Term) []api.Term {
		return append(make([]api.Term, 0, len(terms)+3), terms...)
	}
	terms := spare(term("2", 3), term("-1/2", 0), term("1", 3))
	f := Form{spare(term("-1/2", 0), term("3", 3), term("1", 9)), "5"}
	g := Form{spare(term("1", 1), term("2", 3)), "0"}
	values := []string{"1", "2", "3", "4", "5", "6", "7", "8", "9", "10"}
	arguments := [][]api.Term{terms, f.Terms, g.Terms}
	var before [][]api.Term
	for _, l := range arguments {
		before = append(before, slices.Clone(l[:cap(l)]))
	}
	parsed, _ := Parse("-1/2 x0 + 3 x3 + 5")
	results := []Form{parsed}
	for _, operate := range []func() (Form, api.Errno){
		func() (Form, api.Errno) { return Of("5", terms...) },
		func() (Form, api.Errno) { return Of("5", f.Terms...) },
		func() (Form, api.Errno) { return Add(f, zero()) },
		func() (Form, api.Errno) { return Add(zero(), f) },
		func() (Form, api.Errno) { return Add(f, g) },
		func() (Form, api.Errno) { return Scale(f, "1") },
		func() (Form, api.Errno) { return Put(f, 5, g) },
		func() (Form, api.Errno) { return Put(f, 3, g) },
		func() (Form, api.Errno) { return Put(form("0", term("1", 0)), 0, f) },
	} {
		result, e := operate()
		if e != api.OK {
			t.Fatalf("an operation fails with %d", e)
		}
		results = append(results, result)
	}
	Check(f)
	Coef(f, 3)
	Eval(f, values)
	Text(f)
	for _, result := range results {
		for i := range result.Terms[:cap(result.Terms)] {
			result.Terms[:cap(result.Terms)][i] = term("77", 77)
		}
	}
	for i, l := range arguments {
		if !slices.Equal(l[:cap(l)], before[i]) {
			t.Errorf("an argument has become %v, it was %v", l[:cap(l)], before[i])
		}
	}
	if values[0] != "1" || values[9] != "10" {
		t.Errorf("the values have become %q", values)
	}
}

package certify

import (
	"math/big"
	"math/rand"
	"slices"
	"strconv"
	"strings"
	"testing"

	"cellarer/api"
	"cellarer/linear"
	"cellarer/rational"
	"cellarer/system"
)

// The integers with exactly MaxDigits digits, the one before, and one with one digit more.
var (
	longest = strings.Repeat("9", api.MaxDigits)
	almost  = longest[1:] + "8"
	tooLong = "1" + strings.Repeat("0", api.MaxDigits)
)

// rows returns the system with a text.
func rows(cols int, lines ...string) api.System {
	lines = append([]string{"cols " + strconv.Itoa(cols)}, lines...)
	s, at, e := system.Parse(strings.Join(lines, "\n") + "\n")
	if e != api.OK {
		panic("no system: " + strings.Join(lines, "; ") + " at " + strconv.Itoa(at))
	}
	return s
}

// terms returns the terms of the linear form with a text.
func terms(text string) []api.Term {
	f, e := linear.Parse(text)
	if e != api.OK {
		panic("no form: " + text)
	}
	return f.Terms
}

// list returns the numbers between spaces.
func list(text string) []string {
	return strings.Fields(text)
}

func number(s string) *big.Rat {
	x, ok := new(big.Rat).SetString(s)
	if !ok {
		panic("no number: " + s)
	}
	return x
}

func isShort(x *big.Rat) bool {
	return rational.Valid(x.RatString())
}

// same reports whether two forms are equal, where no terms may be nil or empty.
func same(a, b linear.Form) bool {
	return slices.Equal(a.Terms, b.Terms) && a.Const == b.Const
}

func checkCombine(t *testing.T, s api.System, mult []string, want linear.Form, wantError api.Errno) {
	t.Helper()
	if got, e := Combine(s, mult); !same(got, want) || e != wantError {
		t.Fatalf("Combine(%v, %q) is %v, %d, want %v, %d", s, mult, got, e, want, wantError)
	}
}

func checkFarkas(t *testing.T, s api.System, mult []string, want api.Errno) {
	t.Helper()
	if e := CheckFarkas(s, mult); e != want {
		t.Fatalf("CheckFarkas(%v, %q) is %d, want %d", s, mult, e, want)
	}
}

func checkLeast(t *testing.T, s api.System, cost []api.Term, values, mult []string, want api.Errno) {
	t.Helper()
	if e := CheckLeast(s, cost, values, mult); e != want {
		t.Fatalf("CheckLeast(%v, %v, %q, %q) is %d, want %d", s, cost, values, mult, e, want)
	}
}

func checkRay(t *testing.T, s api.System, cost []api.Term, values, ray []string, want api.Errno) {
	t.Helper()
	if e := CheckRay(s, cost, values, ray); e != want {
		t.Fatalf("CheckRay(%v, %v, %q, %q) is %d, want %d", s, cost, values, ray, e, want)
	}
}

// plainCombination returns the coefficients of all columns in the combination, and its Const behind them; ok is false if a number on the way is too long.
func plainCombination(s api.System, mult []string) (sums []*big.Rat, ok bool) {
	sums, ok = make([]*big.Rat, s.Cols+1), true
	for i := range sums {
		sums[i] = new(big.Rat)
	}
	for i, r := range s.Rows {
		by := number(mult[i])
		add := func(col int, coef string) {
			product := new(big.Rat).Mul(number(coef), by)
			sums[col].Add(sums[col], product)
			ok = ok && isShort(product) && isShort(sums[col])
		}
		for _, t := range r.Terms {
			add(t.Col, t.Coef)
		}
		add(s.Cols, r.Const)
	}
	return sums, ok
}

func formOf(sums []*big.Rat) linear.Form {
	last := len(sums) - 1
	f := linear.Form{Const: sums[last].RatString()}
	for col, x := range sums[:last] {
		if x.Sign() != 0 {
			f.Terms = append(f.Terms, api.Term{Col: col, Coef: x.RatString()})
		}
	}
	return f
}

func plainValue(l []api.Term, c string, numbers []string) *big.Rat {
	total := number(c)
	for _, t := range l {
		total.Add(total, new(big.Rat).Mul(number(t.Coef), number(numbers[t.Col])))
	}
	return total
}

func isSatisfied(value *big.Rat, eq bool) bool {
	return value.Sign() == 0 || value.Sign() > 0 && !eq
}

func plainHolds(s api.System, values []string) bool {
	return !slices.ContainsFunc(values, isBelowZero) && !slices.ContainsFunc(s.Rows, func(r api.Row) bool {
		return !isSatisfied(plainValue(r.Terms, r.Const, values), r.Eq)
	})
}

func isBelowZero(s string) bool {
	return number(s).Sign() < 0
}

// plainDual reports whether multipliers are admissible and their combination has no greater coefficients than a cost; it also returns the Const of the combination.
func plainDual(s api.System, cost []api.Term, mult []string) (bool, *big.Rat) {
	for i, r := range s.Rows {
		if !r.Eq && isBelowZero(mult[i]) {
			return false, nil
		}
	}
	sums, _ := plainCombination(s, mult)
	for col, x := range sums[:s.Cols] {
		if x.Cmp(number(linear.Coef(linear.Form{Terms: cost, Const: "0"}, col))) > 0 {
			return false, nil
		}
	}
	return true, sums[s.Cols]
}

func plainFarkas(s api.System, mult []string) api.Errno {
	if ok, c := plainDual(s, nil, mult); ok && c.Sign() < 0 {
		return api.OK
	}
	return api.ErrProof
}

func plainLeast(s api.System, cost []api.Term, values, mult []string) api.Errno {
	if !plainHolds(s, values) {
		return api.ErrBound
	}
	if ok, c := plainDual(s, cost, mult); ok && plainValue(cost, "0", values).Cmp(c.Neg(c)) == 0 {
		return api.OK
	}
	return api.ErrProof
}

func plainRay(s api.System, cost []api.Term, values, ray []string) api.Errno {
	if !plainHolds(s, values) {
		return api.ErrBound
	}
	kept := !slices.ContainsFunc(s.Rows, func(r api.Row) bool { return !isSatisfied(plainValue(r.Terms, "0", ray), r.Eq) })
	if kept && !slices.ContainsFunc(ray, isBelowZero) && plainValue(cost, "0", ray).Sign() < 0 {
		return api.OK
	}
	return api.ErrProof
}

// drawn makes small systems and certificates for them.
type drawn struct{ *rand.Rand }

func newDrawn(seed int64) drawn {
	return drawn{rand.New(rand.NewSource(seed))}
}

func (d drawn) number() string {
	return big.NewRat(int64(d.Intn(7)-3), int64(1+d.Intn(3))).RatString()
}

// magnitude returns a number that is at least 0, and often 0.
func (d drawn) magnitude() string {
	return big.NewRat(int64(max(0, d.Intn(7)-3)), int64(1+d.Intn(3))).RatString()
}

func (d drawn) list(count int, draw func() string) []string {
	l := make([]string, count)
	for i := range l {
		l[i] = draw()
	}
	return l
}

func (d drawn) system(cols, rows int) api.System {
	s := api.System{Cols: cols}
	for range rows {
		s.Rows = append(s.Rows, api.Row{Terms: d.terms(cols), Const: d.number(), Eq: d.Intn(3) == 0, Mark: d.Intn(3)})
	}
	return s
}

func (d drawn) terms(cols int) []api.Term {
	var l []api.Term
	for col := range cols {
		if coef := d.number(); coef != "0" && d.Intn(4) > 0 {
			l = append(l, api.Term{Col: col, Coef: coef})
		}
	}
	return l
}

// multipliers returns admissible multipliers, 0 among them.
func (d drawn) multipliers(s api.System) []string {
	mult := d.list(len(s.Rows), d.magnitude)
	for i, r := range s.Rows {
		if r.Eq {
			mult[i] = d.number()
		}
	}
	return mult
}

// satisfy changes the Consts of rows so that values hold; rows with a multiplier other than 0 become 0 for the values.
func (d drawn) satisfy(s api.System, values, mult []string) {
	for i, r := range s.Rows {
		rest := plainValue(r.Terms, "0", values)
		rest.Neg(rest)
		if !r.Eq && mult[i] == "0" {
			rest.Add(rest, number(d.magnitude()))
		}
		s.Rows[i].Const = rest.RatString()
	}
}

// withCoef returns the terms with another coefficient of a column.
func withCoef(l []api.Term, col int, coef *big.Rat) []api.Term {
	l = slices.DeleteFunc(slices.Clone(l), func(t api.Term) bool { return t.Col == col })
	if coef.Sign() != 0 {
		l = append(l, api.Term{Col: col, Coef: coef.RatString()})
	}
	slices.SortFunc(l, func(a, b api.Term) int { return a.Col - b.Col })
	return l
}

func coefOf(l []api.Term, col int) *big.Rat {
	return number(linear.Coef(linear.Form{Terms: l, Const: "0"}, col))
}

// refuted returns a system and multipliers that refute it.
func (d drawn) refuted(cols, rows int) (api.System, []string) {
	s := d.system(cols, rows)
	mult := d.multipliers(s)
	last := rows - 1
	mult[last] = big.NewRat(int64(1+d.Intn(3)), int64(1+d.Intn(3))).RatString()
	sums, _ := plainCombination(s, mult)
	// change returns what is to be added to a number of the last row so that the sum becomes the opposite of another number.
	change := func(sum *big.Rat, below string) *big.Rat {
		x := new(big.Rat).Add(sum, number(below))
		return x.Quo(x.Neg(x), number(mult[last]))
	}
	r := &s.Rows[last]
	for col := range cols {
		r.Terms = withCoef(r.Terms, col, new(big.Rat).Add(coefOf(r.Terms, col), change(sums[col], d.magnitude())))
	}
	r.Const = new(big.Rat).Add(number(r.Const), change(sums[cols], "1/3")).RatString()
	return s, mult
}

// least returns a system, a cost, and values and multipliers that prove that the cost of the values is the least one.
func (d drawn) least(cols, rows int) (s api.System, cost []api.Term, values, mult []string) {
	s, values = d.system(cols, rows), d.list(cols, d.magnitude)
	mult = d.multipliers(s)
	d.satisfy(s, values, mult)
	sums, _ := plainCombination(s, mult)
	for col, x := range sums[:cols] {
		if values[col] == "0" {
			x.Add(x, number(d.magnitude()))
		}
		cost = withCoef(cost, col, x)
	}
	return s, cost, values, mult
}

// unbounded returns a system, a cost, and values and a ray that prove that the cost is unbounded.
func (d drawn) unbounded(cols, rows int) (s api.System, cost []api.Term, values, ray []string) {
	s, values, ray = d.system(cols, rows), d.list(cols, d.magnitude), d.list(cols, d.magnitude)
	main := d.Intn(cols)
	ray[main] = big.NewRat(int64(1+d.Intn(3)), int64(1+d.Intn(3))).RatString()
	// adjusted returns the terms whose sum for the ray is a given number.
	adjusted := func(l []api.Term, sum string) []api.Term {
		x := number(sum)
		x.Sub(x, plainValue(l, "0", ray)).Quo(x, number(ray[main]))
		return withCoef(l, main, x.Add(x, coefOf(l, main)))
	}
	for i, r := range s.Rows {
		growth := "0"
		if !r.Eq {
			growth = d.magnitude()
		}
		s.Rows[i].Terms = adjusted(r.Terms, growth)
	}
	d.satisfy(s, values, d.list(rows, d.magnitude))
	return s, adjusted(d.terms(cols), "-1/5"), values, ray
}

// disturbed returns copies of a system, a cost and two lists, one number of which is changed.
func (d drawn) disturbed(s api.System, cost []api.Term, a, b []string) (api.System, []api.Term, []string, []string) {
	s.Rows, cost, a, b = slices.Clone(s.Rows), slices.Clone(cost), slices.Clone(a), slices.Clone(b)
	change := func(x *string) {
		sum := number(*x)
		*x = sum.Add(sum, big.NewRat(int64(1-2*d.Intn(2)), int64(1+d.Intn(4)))).RatString()
	}
	row := func() *api.Row { return &s.Rows[d.Intn(len(s.Rows))] }
	switch d.Intn(6) {
	case 0:
		change(&a[d.Intn(len(a))])
	case 1:
		change(&b[d.Intn(len(b))])
	case 2:
		change(&row().Const)
	case 3:
		r := row()
		r.Eq = !r.Eq
	case 4:
		if r := row(); len(r.Terms) > 0 {
			t := r.Terms[d.Intn(len(r.Terms))]
			change(&t.Coef)
			r.Terms = withCoef(r.Terms, t.Col, number(t.Coef))
		}
	default:
		col := d.Intn(s.Cols)
		coef := coefOf(cost, col).RatString()
		change(&coef)
		cost = withCoef(cost, col, number(coef))
	}
	return s, cost, a, b
}

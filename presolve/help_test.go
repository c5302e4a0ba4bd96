package presolve

import (
	"fmt"
	"math/big"
	"math/rand"
	"slices"
	"strconv"
	"strings"
	"testing"

	"cellarer/api"
	"cellarer/rational"
	"cellarer/system"
)

// The integers with exactly MaxDigits digits that are most used here.
var (
	power   = digits("1")
	longest = strings.Repeat("9", api.MaxDigits)
)

// digits returns a digit and zeros, MaxDigits digits in all.
func digits(first string) string {
	return first + strings.Repeat("0", api.MaxDigits-1)
}

// rows returns the system with a text.
func rows(cols int, lines ...string) api.System {
	lines = append([]string{"cols " + strconv.Itoa(cols)}, lines...)
	s, at, e := system.Parse(strings.Join(lines, "\n") + "\n")
	if e != api.OK {
		panic("no system: " + strings.Join(lines, "; ") + " at " + strconv.Itoa(at))
	}
	return s
}

// list returns the numbers between spaces.
func list(text string) []string {
	return strings.Fields(text)
}

func number(s string) *big.Rat {
	x, ok := new(big.Rat).SetString(s)
	if !ok {
		panic("no number: " + s)
	}
	return x
}

// same reports whether two systems are equal, where a list without elements may be nil or empty.
func same(a, b api.System) bool {
	return a.Cols == b.Cols && slices.EqualFunc(a.Rows, b.Rows, func(x, y api.Row) bool {
		return slices.Equal(x.Terms, y.Terms) && x.Const == y.Const && x.Eq == y.Eq && x.Mark == y.Mark
	})
}

// brief returns values for a message. Systems may be too large for one, and numbers too long.
func brief(values ...any) string {
	text := fmt.Sprintf("%q", values)
	return text[:min(len(text), 700)]
}

// plain reduces a system as the chapter describes it, on numbers of any length and with a coefficient for each column and a weight for each row.
type plain struct {
	cols, count int
	rows        []plainRow
	tied        []plainTie
	gone        []int
	isLong      bool // whether a number was too long
}

type plainRow struct {
	coefs, weights []*big.Rat
	constant       *big.Rat
	row            api.Row
	from           int
}

// plainTie says that a column is a constant, or a multiple of another column.
type plainTie struct {
	col, to      int
	value, ratio *big.Rat // only one of them
}

// plainOf returns a system when all its steps are done, or a number was too long.
func plainOf(s api.System) *plain {
	p := &plain{cols: s.Cols, count: len(s.Rows)}
	for i, r := range s.Rows {
		x := plainRow{coefs: nulls(s.Cols), weights: nulls(p.count), constant: number(r.Const), row: r, from: i}
		for _, t := range r.Terms {
			x.coefs[t.Col] = number(t.Coef)
		}
		x.weights[i].SetInt64(1)
		p.rows = append(p.rows, x)
	}
	for !p.isLong && p.step() {
	}
	for col := range s.Cols {
		if !slices.ContainsFunc(p.rows, func(r plainRow) bool { return r.coefs[col].Sign() != 0 }) {
			p.gone = append(p.gone, col)
		}
	}
	return p
}

func nulls(count int) []*big.Rat {
	l := make([]*big.Rat, count)
	for i := range l {
		l[i] = new(big.Rat)
	}
	return l
}

// see returns a number that is calculated.
func (p *plain) see(x *big.Rat) *big.Rat {
	p.isLong = p.isLong || !rational.Valid(x.RatString())
	return x
}

// columns returns the columns of a row.
func (r plainRow) columns() []int {
	var l []int
	for col, x := range r.coefs {
		if x.Sign() != 0 {
			l = append(l, col)
		}
	}
	return l
}

func (p *plain) step() bool {
	for i, r := range p.rows {
		if sign := r.constant.Sign(); len(r.columns()) == 0 && (sign == 0 || sign > 0 && !r.row.Eq) {
			p.rows = slices.Delete(p.rows, i, i+1)
			return true
		}
	}
	for i, r := range p.rows {
		if c := r.columns(); r.row.Eq && len(c) == 1 {
			value := new(big.Rat).Quo(new(big.Rat).Neg(r.constant), r.coefs[c[0]])
			if value.Sign() >= 0 {
				p.substitute(i, plainTie{col: c[0], value: p.see(value)})
				return true
			}
		}
	}
	for i, r := range p.rows {
		c := r.columns()
		if r.row.Eq && len(c) == 2 && r.constant.Sign() == 0 && r.coefs[c[0]].Sign()*r.coefs[c[1]].Sign() < 0 {
			ratio := new(big.Rat).Quo(r.coefs[c[0]], r.coefs[c[1]])
			p.substitute(i, plainTie{col: c[1], to: c[0], ratio: p.see(ratio.Neg(ratio))})
			return true
		}
	}
	return false
}

// substitute removes a row, and a column from all others.
func (p *plain) substitute(i int, tie plainTie) {
	r := p.rows[i]
	p.rows = slices.Delete(p.rows, i, i+1)
	p.tied = append(p.tied, tie)
	for _, other := range p.rows {
		if other.coefs[tie.col].Sign() == 0 {
			continue
		}
		factor := p.see(new(big.Rat).Quo(other.coefs[tie.col], r.coefs[tie.col]))
		less := func(x, by *big.Rat) {
			product := p.see(new(big.Rat).Mul(by, factor))
			p.see(x.Sub(x, product))
		}
		for col := range p.cols {
			less(other.coefs[col], r.coefs[col])
		}
		for row := range p.count {
			less(other.weights[row], r.weights[row])
		}
		less(other.constant, r.constant)
	}
}

// system returns the reduced system, and the rows that its rows were.
func (p *plain) system() (api.System, []int) {
	s := api.System{Cols: p.cols - len(p.gone)}
	var from []int
	for _, r := range p.rows {
		var terms []api.Term
		for _, col := range r.columns() {
			_, place := p.place(col)
			terms = append(terms, api.Term{Col: place, Coef: r.coefs[col].RatString()})
		}
		s.Rows = append(s.Rows, api.Row{Terms: terms, Const: r.constant.RatString(), Eq: r.row.Eq, Mark: r.row.Mark})
		from = append(from, r.from)
	}
	return s, from
}

// place returns whether a column remains, and as which one.
func (p *plain) place(col int) (bool, int) {
	before, isGone := slices.BinarySearch(p.gone, col)
	return !isGone, col - before
}

// back returns the values of all columns, and whether no product is too long.
func (p *plain) back(values []string) ([]string, bool) {
	all := nulls(p.cols)
	for col := range p.cols {
		if ok, place := p.place(col); ok {
			all[col] = number(values[place])
		}
	}
	p.isLong = false
	for _, tie := range slices.Backward(p.tied) {
		if tie.value != nil {
			all[tie.col] = tie.value
		} else {
			all[tie.col] = p.see(new(big.Rat).Mul(tie.ratio, all[tie.to]))
		}
	}
	return texts(all), !p.isLong
}

// lift returns the multipliers of all rows, and whether no product and no sum is too long.
func (p *plain) lift(mult []string) ([]string, bool) {
	all := nulls(p.count)
	p.isLong = false
	for i, r := range p.rows {
		for row, weight := range r.weights {
			product := p.see(new(big.Rat).Mul(number(mult[i]), weight))
			p.see(all[row].Add(all[row], product))
		}
	}
	return texts(all), !p.isLong
}

func texts(numbers []*big.Rat) []string {
	var l []string
	for _, x := range numbers {
		l = append(l, x.RatString())
	}
	return l
}

// checkPlain compares Reduce and the Undo, for drawn values and multipliers, with the plain reduction. It returns both results.
func checkPlain(t *testing.T, d drawn, s api.System) (api.System, Undo, api.Errno) {
	t.Helper()
	p := plainOf(s)
	if p.isLong {
		checkError(t, s, api.ErrLong)
		return api.System{}, Undo{}, api.ErrLong
	}
	want, from := p.system()
	got, u, e := Reduce(s)
	if !same(got, want) || e != api.OK {
		t.Fatalf("Reduce(%s) is %s, %d, want %s", brief(s), brief(got), e, brief(want))
	}
	if !slices.Equal(u.Rows(), from) || !slices.Equal(u.Gone(), p.gone) {
		t.Fatalf("Reduce(%s) has the Rows %v and Gone %v, want %v and %v", brief(s), u.Rows(), u.Gone(), from, p.gone)
	}
	for range 3 {
		values, mult := d.numbers(want.Cols), d.numbers(len(want.Rows))
		wantValues, _ := p.back(values)
		checkList(t, "Back", u.Back, values, wantValues, api.OK)
		wantMult, _ := p.lift(mult)
		checkList(t, "Lift", u.Lift, mult, wantMult, api.OK)
	}
	for i := range want.Rows {
		unit := zeros(len(want.Rows))
		unit[i] = "1"
		checkList(t, "Lift", u.Lift, unit, texts(p.rows[i].weights), api.OK)
	}
	return got, u, api.OK
}

// checkError reports an error if Reduce does not fail with an error, and without results.
func checkError(t *testing.T, s api.System, want api.Errno) {
	t.Helper()
	got, u, e := Reduce(s)
	back, e1 := u.Back(nil)
	lift, e2 := u.Lift(nil)
	if !same(got, api.System{}) || len(u.Rows())+len(u.Gone())+len(back)+len(lift) != 0 || e1 != api.OK || e2 != api.OK || e != want {
		t.Fatalf("Reduce(%s) is %s, %s, %d, want %d", brief(s), brief(got), brief(u.Rows(), u.Gone(), back, lift), e, want)
	}
}

// checkList reports an error if Back or Lift does not have some results.
func checkList(t *testing.T, name string, operate func([]string) ([]string, api.Errno), of, want []string, wantError api.Errno) {
	t.Helper()
	if got, e := operate(of); !slices.Equal(got, want) || e != wantError {
		t.Fatalf("%s(%s) is %s, %d, want %s, %d", name, brief(of), brief(got), e, brief(want), wantError)
	}
}

// reduced returns what Reduce returns for a system that can be reduced.
func reduced(t *testing.T, s api.System) (api.System, Undo) {
	t.Helper()
	r, u, e := Reduce(s)
	if e != api.OK {
		t.Fatalf("Reduce(%s) returns the error %d", brief(s), e)
	}
	return r, u
}

// drawn makes small systems.
type drawn struct{ *rand.Rand }

func newDrawn(seed int64) drawn {
	return drawn{rand.New(rand.NewSource(seed))}
}

// number returns a small number other than 0.
func (d drawn) number() string {
	n := int64(1 + d.Intn(4))
	if d.Intn(2) == 0 {
		n = -n
	}
	return big.NewRat(n, int64(1+d.Intn(3))).RatString()
}

func (d drawn) numbers(count int) []string {
	l := zeros(count)
	for i := range l {
		if d.Intn(5) > 0 {
			l[i] = d.number()
		}
	}
	return l
}

// terms returns the terms of some columns.
func (d drawn) terms(cols, count int) []api.Term {
	chosen := d.Perm(cols)[:min(cols, count)]
	slices.Sort(chosen)
	var l []api.Term
	for _, col := range chosen {
		l = append(l, api.Term{Col: col, Coef: d.number()})
	}
	return l
}

// system returns a system. Most of its rows have few terms and the Const 0, so that there are chains of substitutions.
func (d drawn) system(cols, count int) api.System {
	s := api.System{Cols: cols}
	for range count {
		r := api.Row{Terms: d.terms(cols, d.Intn(4)), Const: "0", Eq: d.Intn(4) > 0, Mark: d.Intn(3) - 1}
		if d.Intn(3) == 0 {
			r.Const = d.number()
		}
		s.Rows = append(s.Rows, r)
	}
	return s
}

package simplex

import (
	"fmt"
	"math/big"
	"math/rand"
	"slices"
	"strconv"
	"strings"
	"testing"

	"cellarer/api"
	"cellarer/linear"
	"cellarer/rational"
	"cellarer/system"
	"cellarer/tableau"
)

// rows returns the system with a text.
func rows(cols int, lines ...string) api.System {
	lines = append([]string{"cols " + strconv.Itoa(cols)}, lines...)
	s, at, e := system.Parse(strings.Join(lines, "\n") + "\n")
	if e != api.OK {
		panic("no system: " + strings.Join(lines, "; ") + " at " + strconv.Itoa(at))
	}
	return s
}

// terms returns the terms of the linear form with a text.
func terms(text string) []api.Term {
	f, e := linear.Parse(text)
	if e != api.OK {
		panic("no form: " + text)
	}
	return f.Terms
}

// list returns the numbers between spaces.
func list(text string) []string {
	return strings.Fields(text)
}

// ten returns the power of ten with a number of digits.
func ten(digits int) string {
	return "1" + strings.Repeat("0", digits-1)
}

func number(s string) *big.Rat {
	x, ok := new(big.Rat).SetString(s)
	if !ok {
		panic("no number: " + s)
	}
	return x
}

// same reports whether two answers are equal, where a list without elements may be nil or empty.
func same(a, b Answer) bool {
	return a.Status == b.Status && slices.Equal(a.Values, b.Values) && slices.Equal(a.Mult, b.Mult) && slices.Equal(a.Ray, b.Ray) && a.Cost == b.Cost
}

// brief returns values for a message. Systems may be too large for one, and numbers too long.
func brief(values ...any) string {
	text := fmt.Sprintf("%q", values)
	return text[:min(len(text), 500)]
}

// check reports an error if Solve, Feasible and Pivots do not have some results.
func check(t *testing.T, s api.System, cost []api.Term, want Answer, pivots int, wantError api.Errno) {
	t.Helper()
	if got, e := Solve(s, cost); !same(got, want) || e != wantError {
		t.Fatalf("Solve(%s) is %s, %d, want %s, %d", brief(s, cost), brief(got), e, brief(want), wantError)
	}
	if got, e := Pivots(s, cost); got != pivots || e != wantError {
		t.Fatalf("Pivots(%s) is %d, %d, want %d, %d", brief(s, cost), got, e, pivots, wantError)
	}
	if len(cost) > 0 {
		return
	}
	if got, e := Feasible(s); !same(got, want) || e != wantError {
		t.Fatalf("Feasible(%s) is %s, %d, want %s, %d", brief(s), brief(got), e, brief(want), wantError)
	}
}

func checkError(t *testing.T, s api.System, cost []api.Term, want api.Errno) {
	t.Helper()
	check(t, s, cost, Answer{}, 0, want)
}

// plain is the method on numbers of any length, as the chapter describes it.
type plain struct {
	entries    [][]*big.Rat
	basis      []int
	m, n       int
	artificial int // the first artificial column
	pivots     int
	isLong     bool // whether a number of a pivot was too long
}

// plainOf returns the tableau of a system and a cost, for which there must be one.
func plainOf(t *testing.T, s api.System, cost []api.Term) *plain {
	t.Helper()
	x, e := tableau.Of(s, cost)
	if e != api.OK {
		t.Fatalf("the system %v has no tableau: %d", s, e)
	}
	p := &plain{basis: x.Basis(), artificial: s.Cols}
	p.m, p.n = x.Size()
	for _, r := range s.Rows {
		if !r.Eq {
			p.artificial++
		}
	}
	for i := range p.m + 2 {
		var row []*big.Rat
		for j := range p.n + 1 {
			row = append(row, number(x.Entry(i, j)))
		}
		p.entries = append(p.entries, row)
	}
	return p
}

func (p *plain) see(numbers ...*big.Rat) {
	for _, x := range numbers {
		p.isLong = p.isLong || !rational.Valid(x.RatString())
	}
}

func (p *plain) pivot(row, col int) {
	p.basis[row] = col
	p.pivots++
	by := new(big.Rat).Set(p.entries[row][col])
	for _, x := range p.entries[row] {
		x.Quo(x, by)
		p.see(x)
	}
	for i, r := range p.entries {
		factor := new(big.Rat).Set(r[col])
		if i == row || factor.Sign() == 0 {
			continue
		}
		for j, x := range r {
			product := new(big.Rat).Mul(factor, p.entries[row][j])
			x.Sub(x, product)
			p.see(product, x)
		}
	}
}

// improve returns the column in which a row is unbounded, and none if it is done or a number is too long.
func (p *plain) improve(costs int) int {
	for !p.isLong {
		col := slices.IndexFunc(p.entries[costs][:p.artificial], func(x *big.Rat) bool { return x.Sign() < 0 })
		if col < 0 {
			return none
		}
		var candidates []int
		for i := range p.m {
			if p.entries[i][col].Sign() > 0 {
				candidates = append(candidates, i)
			}
		}
		if len(candidates) == 0 {
			return col
		}
		p.pivot(slices.MinFunc(candidates, func(a, b int) int {
			limit := func(i int) *big.Rat { return new(big.Rat).Quo(p.entries[i][p.n], p.entries[i][col]) }
			if order := limit(a).Cmp(limit(b)); order != 0 {
				return order
			}
			return p.basis[a] - p.basis[b]
		}), col)
	}
	return none
}

// steps takes all steps of the method, and returns the Status and the column in which the cost is unbounded.
func (p *plain) steps() (int, int) {
	p.improve(p.m + 1)
	if p.entries[p.m+1][p.n].Sign() < 0 {
		return None, none
	}
	for i := range p.m {
		col := slices.IndexFunc(p.entries[i][:p.artificial], func(x *big.Rat) bool { return x.Sign() != 0 })
		if p.basis[i] >= p.artificial && col >= 0 && !p.isLong {
			p.pivot(i, col)
		}
	}
	if col := p.improve(p.m); col != none {
		return Unbounded, col
	}
	return Least, none
}

// solve returns the answer for the system for which p was made, and whether no number of a pivot is too long.
func (p *plain) solve(s api.System) (Answer, bool) {
	status, unbounded := p.steps()
	if p.isLong {
		return Answer{}, false
	}
	values, ray := slices.Repeat(list("0"), s.Cols), slices.Repeat(list("0"), s.Cols)
	for i, col := range p.basis {
		if col < s.Cols {
			values[col] = p.entries[i][p.n].RatString()
		}
	}
	switch status {
	case None:
		return Answer{Status: None, Mult: p.multipliers(s, p.entries[p.m+1], 1)}, true
	case Least:
		return Answer{Values: values, Mult: p.multipliers(s, p.entries[p.m], 0), Cost: new(big.Rat).Neg(p.entries[p.m][p.n]).RatString()}, true
	}
	for i, col := range p.basis {
		if col < s.Cols {
			ray[col] = new(big.Rat).Neg(p.entries[i][unbounded]).RatString()
		}
	}
	if unbounded < s.Cols {
		ray[unbounded] = "1"
	}
	return Answer{Status: Unbounded, Values: values, Ray: ray}, true
}

func (p *plain) multipliers(s api.System, costs []*big.Rat, u int64) []string {
	var mult []string
	slack, artificial := s.Cols, p.artificial
	for _, r := range s.Rows {
		x := new(big.Rat)
		switch sign := number(r.Const).Sign(); {
		case !r.Eq:
			x.Set(costs[slack])
			slack++
			if sign < 0 {
				artificial++
			}
		default:
			x.Sub(big.NewRat(u, 1), costs[artificial])
			artificial++
			if sign > 0 {
				x.Neg(x)
			}
		}
		mult = append(mult, x.RatString())
	}
	return mult
}

// checkPlain compares the functions with the plain method, and returns the answer.
func checkPlain(t *testing.T, s api.System, cost []api.Term) (Answer, api.Errno) {
	t.Helper()
	p := plainOf(t, s, cost)
	want, ok := p.solve(s)
	if !ok {
		checkError(t, s, cost, api.ErrLong)
		return Answer{}, api.ErrLong
	}
	check(t, s, cost, want, p.pivots, api.OK)
	return want, api.OK
}

// drawn makes small systems and costs.
type drawn struct{ *rand.Rand }

func newDrawn(seed int64) drawn {
	return drawn{rand.New(rand.NewSource(seed))}
}

// number returns a small number, and 0 as often as asked for.
func (d drawn) number(zeros float64) string {
	if d.Float64() < zeros {
		return "0"
	}
	return big.NewRat(int64(d.Intn(9)-4), int64(1+d.Intn(3))).RatString()
}

// terms returns terms in the form that a row and certify ask for.
func (d drawn) terms(cols int) []api.Term {
	var l []api.Term
	for col := range cols {
		if coef := d.number(0.3); coef != "0" {
			l = append(l, api.Term{Col: col, Coef: coef})
		}
	}
	return l
}

// system returns a system; some of them have many rows that hold with equality for the same values, and rows that follow from others.
func (d drawn) system(cols, count int) api.System {
	s, zeros := api.System{Cols: cols}, []float64{0, 0.5, 1}[d.Intn(3)]
	for range count {
		r := api.Row{Terms: d.terms(cols), Const: d.number(zeros), Eq: d.Intn(4) == 0, Mark: d.Intn(3)}
		if len(s.Rows) > 0 && d.Intn(6) == 0 {
			other := s.Rows[d.Intn(len(s.Rows))]
			r.Terms, r.Const = slices.Clone(other.Terms), other.Const
		}
		s.Rows = append(s.Rows, r)
	}
	return s
}

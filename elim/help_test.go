package elim

import (
	"math/big"
	"math/rand"
	"slices"
	"strconv"
	"strings"
	"testing"

	"cellarer/api"
	"cellarer/rational"
	"cellarer/system"
)

// The integers with exactly MaxDigits digits, and with one more.
var (
	longest = strings.Repeat("9", api.MaxDigits)
	tooLong = "1" + strings.Repeat("0", api.MaxDigits)
)

// rows returns the system with a text.
func rows(cols int, lines ...string) api.System {
	lines = append([]string{"cols " + strconv.Itoa(cols)}, lines...)
	s, at, e := system.Parse(strings.Join(lines, "\n") + "\n")
	if e != api.OK {
		panic("no system: " + strings.Join(lines, "; ") + " at " + strconv.Itoa(at))
	}
	return s
}

func same(a, b api.System) bool {
	return a.Cols == b.Cols && slices.EqualFunc(a.Rows, b.Rows, func(r, q api.Row) bool {
		return slices.Equal(r.Terms, q.Terms) && r.Const == q.Const && r.Eq == q.Eq && r.Mark == q.Mark
	})
}

func check(t *testing.T, what string, got api.System, e api.Errno, want api.System) {
	t.Helper()
	if !same(got, want) || e != api.OK {
		t.Fatalf("%s is %v, %d, want %v", what, got, e, want)
	}
}

// checkError reports an error if an operation did not fail as it should, without a system.
func checkError(t *testing.T, what string, got api.System, e, want api.Errno) {
	t.Helper()
	if got.Cols != 0 || len(got.Rows) != 0 || e != want {
		t.Errorf("%s is %v, %d, want the error %d", what, got, e, want)
	}
}

// checkEliminate reports an error if Eliminate does not do what the definition says, and returns the error that it has.
func checkEliminate(t *testing.T, s api.System, col int) api.Errno {
	t.Helper()
	got, e := Eliminate(s, col)
	want, wantError := plainEliminate(s, col)
	if !same(got, want) || e != wantError {
		t.Fatalf("Eliminate of column %d of %v is %v, %d, want %v, %d", col, s, got, e, want, wantError)
	}
	return e
}

// checkFeasible reports an error if Feasible has not the wanted results.
func checkFeasible(t *testing.T, s api.System, want bool, wantError api.Errno) {
	t.Helper()
	if got, e := Feasible(s); got != want || e != wantError {
		t.Fatalf("Feasible of %v is %v, %d, want %v, %d", s, got, e, want, wantError)
	}
}

// checkRange reports an error if Range has not the wanted results, where - stands for no greatest value.
func checkRange(t *testing.T, s api.System, col int, least, greatest string) {
	t.Helper()
	low, hasLeast, high, hasGreatest, e := Range(s, col)
	if limited := greatest != "-"; hasGreatest != limited || limited && high != greatest || !limited && high != "" || low != least || !hasLeast || e != api.OK {
		t.Fatalf("Range of column %d of %v is %q, %v, %q, %v, %d, want %s to %s", col, s, low, hasLeast, high, hasGreatest, e, least, greatest)
	}
}

func checkRangeError(t *testing.T, s api.System, col int, want api.Errno) {
	t.Helper()
	low, hasLeast, high, hasGreatest, e := Range(s, col)
	if low != "" || hasLeast || high != "" || hasGreatest || e != want {
		t.Errorf("Range of column %d of %v is %q, %v, %q, %v, %d, want the error %d", col, s, low, hasLeast, high, hasGreatest, e, want)
	}
}

func number(s string) *big.Rat {
	x, ok := new(big.Rat).SetString(s)
	if !ok {
		panic("no number: " + s)
	}
	return x
}

// drawn makes small systems.
type drawn struct{ *rand.Rand }

func newDrawn(seed int64) drawn {
	return drawn{rand.New(rand.NewSource(seed))}
}

func (d drawn) system(cols, rows int) api.System {
	s := api.System{Cols: cols}
	for range rows {
		r := api.Row{Const: d.number(), Eq: d.Intn(5) == 0, Mark: d.Intn(3)}
		for col := range cols {
			if coef := d.number(); coef != "0" && d.Intn(4) > 0 {
				r.Terms = append(r.Terms, api.Term{Col: col, Coef: coef})
			}
		}
		s.Rows = append(s.Rows, r)
	}
	return s
}

// satisfied returns a system for which some values hold, and the values.
func (d drawn) satisfied(cols, rows int) (api.System, []string) {
	s, values := d.system(cols, rows), make([]string, cols)
	for col := range values {
		values[col] = big.NewRat(int64(d.Intn(5)), int64(1+d.Intn(2))).RatString()
	}
	for i, r := range s.Rows {
		value := dense(r, cols).value(values)
		if !r.Eq && value.Sign() >= 0 {
			continue
		}
		rest := value.Sub(number(r.Const), value)
		if !r.Eq {
			rest.Add(rest, big.NewRat(int64(d.Intn(3)), 1))
		}
		s.Rows[i].Const = rest.RatString()
	}
	return s, values
}

func (d drawn) number() string {
	return big.NewRat(int64(d.Intn(7)-3), int64(1+d.Intn(2))).RatString()
}

// plain is a row with the coefficients of all columns, and Const at the end.
type plain struct {
	numbers []*big.Rat
	eq      bool
}

func dense(r api.Row, cols int) plain {
	p := plain{make([]*big.Rat, cols+1), r.Eq}
	for i := range p.numbers {
		p.numbers[i] = new(big.Rat)
	}
	for _, t := range r.Terms {
		p.numbers[t.Col] = number(t.Coef)
	}
	p.numbers[cols] = number(r.Const)
	return p
}

func (p plain) value(values []string) *big.Rat {
	total := new(big.Rat).Set(p.numbers[len(values)])
	for col, v := range values {
		total.Add(total, new(big.Rat).Mul(p.numbers[col], number(v)))
	}
	return total
}

// plus returns p + by * q, which is an equality if p is.
func (p plain) plus(q plain, by *big.Rat) plain {
	out := plain{make([]*big.Rat, len(p.numbers)), p.eq}
	for i, x := range p.numbers {
		out.numbers[i] = new(big.Rat).Mul(q.numbers[i], by)
		out.numbers[i].Add(out.numbers[i], x)
	}
	return out
}

func (p plain) times(by *big.Rat) plain {
	return p.plus(p, new(big.Rat).Sub(by, big.NewRat(1, 1)))
}

func (p plain) row() api.Row {
	cols := len(p.numbers) - 1
	r := api.Row{Const: p.numbers[cols].RatString(), Eq: p.eq}
	for col, x := range p.numbers[:cols] {
		if x.Sign() != 0 {
			r.Terms = append(r.Terms, api.Term{Col: col, Coef: x.RatString()})
		}
	}
	return r
}

// plainEliminate eliminates a column as the definition says it.
func plainEliminate(s api.System, col int) (api.System, api.Errno) {
	n, e := system.Normal(s)
	if e != api.OK {
		return api.System{}, e
	}
	bound := dense(api.Row{Const: "0", Terms: []api.Term{{Col: col, Coef: "1"}}}, s.Cols)
	lower, upper, others, equality := []plain{bound}, []plain(nil), []plain(nil), -1
	for _, r := range n.Rows {
		p := dense(r, s.Cols)
		switch sign := p.numbers[col].Sign(); {
		case sign == 0 || p.eq:
			others = append(others, p)
			if sign != 0 && equality < 0 {
				equality = len(others) - 1
			}
		case sign > 0:
			lower = append(lower, p)
		default:
			upper = append(upper, p)
		}
	}
	var made []plain
	if equality >= 0 {
		for i, p := range slices.Concat(others, lower, upper) {
			if i != equality {
				made = append(made, p.plus(others[equality], ratio(p, others[equality], col)))
			}
		}
	} else if made = others; len(others)+len(lower)*len(upper) > api.MaxRows {
		return api.System{}, api.ErrMany
	}
	for _, l := range lower {
		for _, u := range upper {
			if equality < 0 {
				made = append(made, l.times(new(big.Rat).Inv(l.numbers[col])).plus(u, ratio(bound, u, col)))
			}
		}
	}
	out := api.System{Cols: s.Cols}
	for _, p := range made {
		if slices.ContainsFunc(p.numbers, func(x *big.Rat) bool { return !rational.Valid(x.RatString()) }) {
			return api.System{}, api.ErrLong
		}
		out.Rows = append(out.Rows, p.row())
	}
	return system.Normal(out)
}

// ratio returns the number times which q is to be added to p so that a column has the coefficient 0.
func ratio(p, q plain, col int) *big.Rat {
	x := new(big.Rat).Quo(p.numbers[col], q.numbers[col])
	return x.Neg(x)
}

// corners returns the values at which a system holds and as many of its rows and of the bounds of its columns as it has columns are equalities. A system has a solution exactly if it has a corner, and the least value of a column is that of a corner.
func corners(s api.System) [][]string {
	var borders []plain
	for _, r := range s.Rows {
		borders = append(borders, dense(r, s.Cols))
	}
	for col := range s.Cols {
		borders = append(borders, dense(api.Row{Const: "0", Terms: []api.Term{{Col: col, Coef: "1"}}}, s.Cols))
	}
	var found [][]string
	var choose func(chosen []plain, from int)
	choose = func(chosen []plain, from int) {
		if len(chosen) == s.Cols {
			if values, ok := meeting(chosen, s.Cols); ok {
				if holds, _ := system.Holds(s, values); holds {
					found = append(found, values)
				}
			}
			return
		}
		for i := from; i < len(borders); i++ {
			choose(append(slices.Clone(chosen), borders[i]), i+1)
		}
	}
	choose(nil, 0)
	return found
}

// meeting returns the only values for which all of as many rows as columns are 0, if there are such values.
func meeting(l []plain, cols int) ([]string, bool) {
	l = slices.Clone(l)
	for col := range cols {
		pivot := slices.IndexFunc(l[col:], func(p plain) bool { return p.numbers[col].Sign() != 0 }) + col
		if pivot < col {
			return nil, false
		}
		l[col], l[pivot] = l[pivot], l[col]
		for i := range l {
			if i != col {
				l[i] = l[i].plus(l[col], ratio(l[i], l[col], col))
			}
		}
	}
	values := make([]string, cols)
	for col := range cols {
		x := new(big.Rat).Quo(l[col].numbers[cols], l[col].numbers[col])
		values[col] = x.Neg(x).RatString()
	}
	return values, true
}

// isUnlimited reports whether a column of a system with a solution has no greatest value: whether there is a direction in which it grows and no row is left.
func isUnlimited(s api.System, col int) bool {
	directions := api.System{Cols: s.Cols, Rows: []api.Row{{Const: "-1", Terms: []api.Term{{Col: col, Coef: "1"}}, Eq: true}}}
	for _, r := range s.Rows {
		directions.Rows = append(directions.Rows, api.Row{Const: "0", Terms: r.Terms, Eq: r.Eq})
	}
	return len(corners(directions)) > 0
}

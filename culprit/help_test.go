package culprit

import (
	"fmt"
	"math/big"
	"math/rand"
	"slices"
	"strconv"
	"strings"
	"testing"

	"cellarer/api"
	"cellarer/elim"
	"cellarer/system"
)

// power is an integer with exactly MaxDigits digits.
var power = "1" + strings.Repeat("0", api.MaxDigits-1)

// rows returns the system with a text.
func rows(cols int, lines ...string) api.System {
	lines = append([]string{"cols " + strconv.Itoa(cols)}, lines...)
	s, at, e := system.Parse(strings.Join(lines, "\n") + "\n")
	if e != api.OK {
		panic("no system: " + strings.Join(lines, "; ") + " at " + strconv.Itoa(at))
	}
	return s
}

// many returns a system with the same row many times.
func many(cols, count int, line string) api.System {
	s := rows(cols, line)
	s.Rows = slices.Repeat(s.Rows, count)
	return s
}

// badSystems are not valid.
func badSystems() []api.System {
	two := rows(2, "1 x0 + 1 x1 >= 0").Rows
	return []api.System{
		{Cols: -1}, {Cols: api.MaxCols + 1}, many(1, api.MaxRows+1, "0 >= 0"), {Cols: 1, Rows: two}, {Cols: 1, Rows: []api.Row{{}}},
		{Cols: 2, Rows: append(two, api.Row{Const: "2/4"})}, {Cols: 2, Rows: []api.Row{{Const: "-1", Terms: []api.Term{{Col: 1, Coef: "0"}}}}},
		{Cols: 2, Rows: []api.Row{{Const: "-1", Terms: []api.Term{{Col: 1, Coef: "1"}, {Col: 0, Coef: "1"}}}}},
		{Cols: api.MaxCols + 1, Rows: rows(1, "-1 >= 0").Rows},
	}
}

func number(s string) *big.Rat {
	x, ok := new(big.Rat).SetString(s)
	if !ok {
		panic("no number: " + s)
	}
	return x
}

// brief returns values for a message. Systems may be too large for one, and numbers too long.
func brief(values ...any) string {
	text := fmt.Sprintf("%q", values)
	return text[:min(len(text), 500)]
}

func checkCulprits(t *testing.T, s api.System, want []int, wantError api.Errno) {
	t.Helper()
	if got, e := Culprits(s); !slices.Equal(got, want) || e != wantError {
		t.Fatalf("Culprits(%s) is %v, %d, want %v, %d", brief(s), got, e, want, wantError)
	}
}

func checkMinimal(t *testing.T, s api.System, subset []int, want bool, wantError api.Errno) {
	t.Helper()
	if got, e := Minimal(s, subset); got != want || e != wantError {
		t.Fatalf("Minimal(%s, %v) is %v, %d, want %v, %d", brief(s), subset, got, e, want, wantError)
	}
}

// checkRelax checks the least total violation, and that the values have it.
func checkRelax(t *testing.T, s api.System, want string) []string {
	t.Helper()
	least, values, e := Relax(s)
	if least != want || len(values) != s.Cols || e != api.OK {
		t.Fatalf("Relax(%s) is %s, %d, want %s", brief(s), brief(least, values), e, want)
	}
	isNegative := func(v string) bool { return number(v).Sign() < 0 }
	if total := violation(s, values); total.RatString() != want || slices.ContainsFunc(values, isNegative) {
		t.Fatalf("the values %s, which Relax(%s) returns, have the total violation %v, want %s", brief(values), brief(s), total, want)
	}
	return values
}

func checkRelaxError(t *testing.T, s api.System, want api.Errno) {
	t.Helper()
	if least, values, e := Relax(s); least != "" || len(values) != 0 || e != want {
		t.Fatalf("Relax(%s) is %s, %d, want %d", brief(s), brief(least, values), e, want)
	}
}

// violation returns the total violation by values.
func violation(s api.System, values []string) *big.Rat {
	total := new(big.Rat)
	for _, r := range s.Rows {
		x := number(r.Const)
		for _, t := range r.Terms {
			x.Add(x, new(big.Rat).Mul(number(t.Coef), number(values[t.Col])))
		}
		if r.Eq || x.Sign() < 0 {
			total.Add(total, x.Abs(x))
		}
	}
	return total
}

// subsets tells for each subset of the rows of a system, found by elimination, whether it is contradictory. Row i is in a subset if bit i is set.
func subsets(t *testing.T, s api.System) []bool {
	t.Helper()
	l := make([]bool, 1<<len(s.Rows))
	for bits := range l {
		part := api.System{Cols: s.Cols}
		for _, i := range indices(bits) {
			part.Rows = append(part.Rows, s.Rows[i])
		}
		ok, e := elim.Feasible(part)
		if e != api.OK {
			t.Fatalf("the elimination for %v fails with %d", part, e)
		}
		l[bits] = !ok
	}
	return l
}

// indices returns the rows of a subset.
func indices(bits int) []int {
	var l []int
	for i := 0; bits>>i > 0; i++ {
		if bits>>i&1 > 0 {
			l = append(l, i)
		}
	}
	return l
}

// plainMinimal reports whether a subset is minimal.
func plainMinimal(contradictory []bool, bits int) bool {
	return contradictory[bits] && !slices.ContainsFunc(indices(bits), func(i int) bool { return contradictory[bits&^(1<<i)] })
}

// plainCulprits returns the culprits of a contradictory system.
func plainCulprits(contradictory []bool) []int {
	bits := len(contradictory) - 1
	for _, i := range slices.Backward(indices(bits)) {
		if contradictory[bits&^(1<<i)] {
			bits &^= 1 << i
		}
	}
	return indices(bits)
}

// eliminated returns the least total violation, found by elimination. One more column is at least every sum that a violation could be: of some rows the opposite of their forms, and of some equalities their forms.
func eliminated(t *testing.T, s api.System) (string, bool) {
	t.Helper()
	sums := []api.Row{{Const: "0", Terms: []api.Term{{Col: s.Cols, Coef: "1"}}}}
	for _, r := range s.Rows {
		var more []api.Row
		for _, sum := range sums {
			more = append(more, sum, plus(sum, r, 1))
			if r.Eq {
				more = append(more, plus(sum, r, -1))
			}
		}
		sums = more
	}
	least, _, _, _, e := elim.Range(api.System{Cols: s.Cols + 1, Rows: sums}, s.Cols)
	if e != api.OK && e != api.ErrMany {
		t.Fatalf("the elimination for the least violation of %v fails with %d", s, e)
	}
	return least, e == api.OK
}

// plus returns a row plus a multiple of another one. The last column of the row is not one of the other.
func plus(sum, r api.Row, times int64) api.Row {
	by := big.NewRat(times, 1)
	coefs := map[int]*big.Rat{}
	for _, t := range sum.Terms {
		coefs[t.Col] = number(t.Coef)
	}
	for _, t := range r.Terms {
		if coefs[t.Col] == nil {
			coefs[t.Col] = new(big.Rat)
		}
		coefs[t.Col].Add(coefs[t.Col], new(big.Rat).Mul(by, number(t.Coef)))
	}
	constant := new(big.Rat).Mul(by, number(r.Const))
	out := api.Row{Const: constant.Add(constant, number(sum.Const)).RatString()}
	for col := range sum.Terms[len(sum.Terms)-1].Col + 1 {
		if x := coefs[col]; x != nil && x.Sign() != 0 {
			out.Terms = append(out.Terms, api.Term{Col: col, Coef: x.RatString()})
		}
	}
	return out
}

// drawn makes small systems.
type drawn struct{ *rand.Rand }

func newDrawn(seed int64) drawn {
	return drawn{rand.New(rand.NewSource(seed))}
}

func (d drawn) number() string {
	return big.NewRat(int64(d.Intn(9)-4), int64(1+d.Intn(2))).RatString()
}

// system returns a system, often a contradictory one, with few rows that are contradictory alone. Some rows are repeated, so that there are several minimal subsets.
func (d drawn) system(cols, count int) api.System {
	s := api.System{Cols: cols}
	for range count {
		r := api.Row{Const: d.number(), Eq: d.Intn(4) == 0, Mark: d.Intn(3)}
		for col := range cols {
			if coef := d.number(); coef != "0" && d.Intn(2) == 0 {
				r.Terms = append(r.Terms, api.Term{Col: col, Coef: coef})
			}
		}
		sign := number(r.Const).Sign()
		isBalanced := slices.ContainsFunc(r.Terms, func(t api.Term) bool { return number(t.Coef).Sign() == -sign })
		if (r.Eq || sign < 0) && !isBalanced && d.Intn(6) > 0 {
			r.Const = "0"
		}
		if len(s.Rows) > 0 && d.Intn(6) == 0 {
			r = s.Rows[d.Intn(len(s.Rows))]
			r.Terms = slices.Clone(r.Terms)
		}
		s.Rows = append(s.Rows, r)
	}
	return s
}

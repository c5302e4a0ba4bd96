package tableau

import (
	"math/big"
	"math/rand"
	"slices"
	"strconv"
	"strings"
	"testing"

	"cellarer/api"
	"cellarer/rational"
	"cellarer/system"
)

// The integers with exactly MaxDigits digits, and with one more.
var (
	longest = strings.Repeat("9", api.MaxDigits)
	tooLong = "1" + strings.Repeat("0", api.MaxDigits)
)

// rows returns the system with a text.
func rows(cols int, lines ...string) api.System {
	lines = append([]string{"cols " + strconv.Itoa(cols)}, lines...)
	s, at, e := system.Parse(strings.Join(lines, "\n") + "\n")
	if e != api.OK {
		panic("no system: " + strings.Join(lines, "; ") + " at " + strconv.Itoa(at))
	}
	return s
}

// many returns a system with the same row many times.
func many(cols, count int, line string) api.System {
	s, all := rows(cols, line), api.System{Cols: cols}
	for range count {
		all.Rows = append(all.Rows, s.Rows[0])
	}
	return all
}

// terms returns the terms with some coefficients and columns, which are written in turns.
func terms(words ...string) []api.Term {
	var l []api.Term
	for i := 0; i < len(words); i += 2 {
		col, e := strconv.Atoi(words[i+1])
		if e != nil {
			panic("no column: " + words[i+1])
		}
		l = append(l, api.Term{Coef: words[i], Col: col})
	}
	return l
}

// of returns a tableau that there must be.
func of(t *testing.T, s api.System, cost []api.Term) Tableau {
	t.Helper()
	x, e := Of(s, cost)
	if e != api.OK {
		t.Fatalf("Of(%v, %v) returns the error %d", s, cost, e)
	}
	return x
}

// pivoted returns the tableau after a pivot that must be possible.
func pivoted(t *testing.T, x Tableau, row, col int) Tableau {
	t.Helper()
	y, e := x.Pivot(row, col)
	if e != api.OK {
		t.Fatalf("Pivot(%d, %d) returns the error %d", row, col, e)
	}
	return y
}

// lines returns the entries of the rows of a tableau.
func lines(x Tableau) []string {
	m, n := x.Size()
	var l []string
	for i := range m + 2 {
		var words []string
		for j := range n + 1 {
			words = append(words, x.Entry(i, j))
		}
		l = append(l, strings.Join(words, " "))
	}
	return l
}

func checkLines(t *testing.T, what string, x Tableau, basis []int, want ...string) {
	t.Helper()
	if got := lines(x); !slices.Equal(got, want) || !slices.Equal(x.Basis(), basis) {
		t.Errorf("%s has the rows %q and the basis %v, want %q and %v", what, got, x.Basis(), want, basis)
	}
}

// isZero reports whether x cannot be told from the zero Tableau.
func isZero(x Tableau) bool {
	m, n := x.Size()
	return m == 0 && n == 0 && x.Entry(0, 0) == "0" && x.Entry(1, 0) == "0" && x.Entry(2, 0) == "" && len(x.Basis()) == 0 && len(x.Values()) == 0 && x.Cost() == "0"
}

func checkOfError(t *testing.T, what string, s api.System, cost []api.Term, want api.Errno) {
	t.Helper()
	if x, e := Of(s, cost); e != want || want != api.OK && !isZero(x) {
		t.Errorf("Of for %s returns the error %d, want %d", what, e, want)
	}
}

func checkPivotError(t *testing.T, what string, x Tableau, row, col int, want api.Errno) {
	t.Helper()
	if y, e := x.Pivot(row, col); e != want || want != api.OK && !isZero(y) {
		t.Errorf("Pivot(%d, %d) of %s returns the error %d, want %d", row, col, what, e, want)
	}
}

func number(s string) *big.Rat {
	x, ok := new(big.Rat).SetString(s)
	if !ok {
		panic("no number: " + s)
	}
	return x
}

func isShort(x *big.Rat) bool {
	return rational.Valid(x.RatString())
}

// plain is a tableau of numbers of any length.
type plain struct {
	cols    int
	basis   []int
	entries [][]*big.Rat
}

// plainOf returns the tableau of a system and a cost as the definition says it, and whether no sum is too long.
func plainOf(s api.System, cost []api.Term) (plain, bool) {
	slack, artificial := map[int]int{}, map[int]int{}
	n := s.Cols
	for i, r := range s.Rows {
		if !r.Eq {
			slack[i] = n
			n++
		}
	}
	for i, r := range s.Rows {
		if r.Eq || number(r.Const).Sign() < 0 {
			artificial[i] = n
			n++
		}
	}
	p := plain{cols: s.Cols}
	for i, r := range s.Rows {
		row := numbers(n + 1)
		constant := number(r.Const)
		set := func(col int, sign int64) { row[col].SetInt64(sign) }
		sum := func(sign int64) {
			for _, term := range r.Terms {
				row[term.Col].Mul(number(term.Coef), big.NewRat(sign, 1))
			}
			// The right-hand side is the opposite of Const where the sum of the terms stands on the left.
			row[n].Mul(constant, big.NewRat(-sign, 1))
		}
		basic := 0
		switch {
		case !r.Eq && constant.Sign() < 0:
			sum(1)
			set(slack[i], -1)
			set(artificial[i], 1)
			basic = artificial[i]
		case r.Eq && constant.Sign() <= 0:
			sum(1)
			set(artificial[i], 1)
			basic = artificial[i]
		case r.Eq:
			sum(-1)
			set(artificial[i], 1)
			basic = artificial[i]
		default:
			sum(-1)
			set(slack[i], 1)
			basic = slack[i]
		}
		p.entries, p.basis = append(p.entries, row), append(p.basis, basic)
	}
	ok := p.addCosts(cost, n)
	ones, sums := numbers(n+1), numbers(n+1)
	for _, col := range artificial {
		ones[col].SetInt64(1)
	}
	for i := range s.Rows {
		if _, has := artificial[i]; has {
			for j := range sums {
				sums[j].Add(sums[j], p.entries[i][j])
				ok = ok && isShort(sums[j])
			}
		}
	}
	for j := range ones {
		ones[j].Sub(ones[j], sums[j])
	}
	p.entries = append(p.entries, ones)
	return p, ok
}

// addCosts adds the row of the costs, and reports whether no sum of coefficients is too long.
func (p *plain) addCosts(cost []api.Term, n int) bool {
	row, ok := numbers(n+1), true
	for _, term := range cost {
		row[term.Col].Add(row[term.Col], number(term.Coef))
		ok = ok && isShort(row[term.Col])
	}
	p.entries = append(p.entries, row)
	return ok
}

func numbers(count int) []*big.Rat {
	l := make([]*big.Rat, count)
	for i := range l {
		l[i] = new(big.Rat)
	}
	return l
}

// pivot returns the tableau after a pivot, and whether no number on the way is too long.
func (p plain) pivot(row, col int) (plain, bool) {
	out, ok := plain{cols: p.cols, basis: slices.Clone(p.basis)}, true
	out.basis[row] = col
	quotients := numbers(len(p.entries[0]))
	for j := range quotients {
		quotients[j].Quo(p.entries[row][j], p.entries[row][col])
		ok = ok && isShort(quotients[j])
	}
	for i, r := range p.entries {
		if i == row {
			out.entries = append(out.entries, quotients)
			continue
		}
		differences := numbers(len(r))
		for j := range differences {
			product := new(big.Rat).Mul(r[col], quotients[j])
			differences[j].Sub(r[j], product)
			ok = ok && isShort(product) && isShort(differences[j])
		}
		out.entries = append(out.entries, differences)
	}
	return out, ok
}

// values returns the basic values of all columns.
func (p plain) values() []*big.Rat {
	n := len(p.entries[0]) - 1
	values := numbers(n)
	for i, col := range p.basis {
		values[col].Set(p.entries[i][n])
	}
	return values
}

// check reports an error if x is not the tableau p.
func check(t *testing.T, what string, x Tableau, p plain) {
	t.Helper()
	m, n := len(p.basis), len(p.entries[0])-1
	if gotM, gotN := x.Size(); gotM != m || gotN != n {
		t.Fatalf("%s has the size %d, %d, want %d, %d", what, gotM, gotN, m, n)
	}
	for i := -1; i <= m+2; i++ {
		for j := -1; j <= n+1; j++ {
			want := ""
			if i >= 0 && i < m+2 && j >= 0 && j <= n {
				want = p.entries[i][j].RatString()
			}
			if got := x.Entry(i, j); got != want {
				t.Fatalf("%s has the entry %q in row %d and column %d, want %q", what, got, i, j, want)
			}
		}
	}
	if !slices.Equal(x.Basis(), p.basis) {
		t.Fatalf("%s has the basis %v, want %v", what, x.Basis(), p.basis)
	}
	values := make([]string, p.cols)
	for col, v := range p.values()[:p.cols] {
		values[col] = v.RatString()
	}
	if got := x.Values(); !slices.Equal(got, values) {
		t.Fatalf("%s has the values %q, want %q", what, got, values)
	}
	if got, want := x.Cost(), new(big.Rat).Neg(p.entries[m][n]).RatString(); got != want {
		t.Fatalf("%s has the cost %q, want %q", what, got, want)
	}
}

// drawn makes small systems and costs.
type drawn struct{ *rand.Rand }

func newDrawn(seed int64) drawn {
	return drawn{rand.New(rand.NewSource(seed))}
}

func (d drawn) number() string {
	return big.NewRat(int64(d.Intn(7)-3), int64(1+d.Intn(3))).RatString()
}

func (d drawn) system(cols, rows int) api.System {
	s := api.System{Cols: cols}
	for range rows {
		r := api.Row{Const: d.number(), Eq: d.Intn(3) == 0, Mark: d.Intn(3)}
		for col := range cols {
			if coef := d.number(); coef != "0" && d.Intn(3) > 0 {
				r.Terms = append(r.Terms, api.Term{Col: col, Coef: coef})
			}
		}
		s.Rows = append(s.Rows, r)
	}
	return s
}

// cost returns terms in any order, with equal columns and the coefficient 0 among them.
func (d drawn) cost(cols, count int) []api.Term {
	var l []api.Term
	for range count {
		if cols > 0 {
			l = append(l, api.Term{Col: d.Intn(cols), Coef: d.number()})
		}
	}
	return l
}

// pivot returns a row and a column at which a pivot is possible, and -1 if there is none.
func (d drawn) pivot(x Tableau) (int, int) {
	m, n := x.Size()
	var at [][2]int
	for i := range m {
		for j := range n {
			if x.Entry(i, j) != "0" {
				at = append(at, [2]int{i, j})
			}
		}
	}
	if len(at) == 0 {
		return -1, -1
	}
	drawn := at[d.Intn(len(at))]
	return drawn[0], drawn[1]
}

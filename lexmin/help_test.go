package lexmin

import (
	"fmt"
	"math/big"
	"math/rand"
	"slices"
	"strconv"
	"strings"
	"testing"

	"cellarer/api"
	"cellarer/certify"
	"cellarer/elim"
	"cellarer/linear"
	"cellarer/simplex"
	"cellarer/system"
)

// The integers with exactly MaxDigits digits that are most used here.
var (
	longest = strings.Repeat("9", api.MaxDigits)
	power   = "1" + strings.Repeat("0", api.MaxDigits-1)
)

// rows returns the system with a text.
func rows(cols int, lines ...string) api.System {
	lines = append([]string{"cols " + strconv.Itoa(cols)}, lines...)
	s, at, e := system.Parse(strings.Join(lines, "\n") + "\n")
	if e != api.OK {
		panic("no system: " + strings.Join(lines, "; ") + " at " + strconv.Itoa(at))
	}
	return s
}

// many returns a system with the same row many times.
func many(cols, count int, line string) api.System {
	s := rows(cols, line)
	s.Rows = slices.Repeat(s.Rows, count)
	return s
}

// costs returns the costs that are the terms of the linear forms with some texts.
func costs(texts ...string) [][]api.Term {
	var l [][]api.Term
	for _, text := range texts {
		f, e := linear.Parse(text)
		if e != api.OK {
			panic("no form: " + text)
		}
		l = append(l, f.Terms)
	}
	return l
}

// list returns the numbers between spaces.
func list(text string) []string {
	return strings.Fields(text)
}

func number(s string) *big.Rat {
	x, ok := new(big.Rat).SetString(s)
	if !ok {
		panic("no number: " + s)
	}
	return x
}

func valueOf(cost []api.Term, values []string) *big.Rat {
	total := new(big.Rat)
	for _, t := range cost {
		total.Add(total, new(big.Rat).Mul(number(t.Coef), number(values[t.Col])))
	}
	return total
}

// restricted returns a system with one more row, which says that a cost has a value.
func restricted(s api.System, cost []api.Term, value *big.Rat) api.System {
	rows := slices.Clone(s.Rows)
	return api.System{Cols: s.Cols, Rows: append(rows, api.Row{Terms: slices.Clone(cost), Const: new(big.Rat).Neg(value).RatString(), Eq: true})}
}

// same reports whether two answers are equal, where a list without elements may be nil or empty.
func same(a, b simplex.Answer) bool {
	return a.Status == b.Status && slices.Equal(a.Values, b.Values) && slices.Equal(a.Mult, b.Mult) && slices.Equal(a.Ray, b.Ray) && a.Cost == b.Cost
}

// sameRows reports whether two systems are equal, where a list without elements may be nil or empty.
func sameRows(a, b api.System) bool {
	return a.Cols == b.Cols && slices.EqualFunc(a.Rows, b.Rows, func(x, y api.Row) bool {
		return slices.Equal(x.Terms, y.Terms) && x.Const == y.Const && x.Eq == y.Eq && x.Mark == y.Mark
	})
}

// brief returns values for a message. Systems may be too large for one, and numbers too long.
func brief(values ...any) string {
	text := fmt.Sprintf("%q", values)
	return text[:min(len(text), 500)]
}

// checkSolve reports an error if Solve does not have some results, and returns the answers.
func checkSolve(t *testing.T, s api.System, costs [][]api.Term, values []string, statuses []int, want api.Errno) []simplex.Answer {
	t.Helper()
	got, answers, e := Solve(s, costs...)
	var found []int
	for _, a := range answers {
		found = append(found, a.Status)
	}
	if !slices.Equal(got, values) || !slices.Equal(found, statuses) || e != want {
		t.Fatalf("Solve(%s) is %s, %d, want %q, %v, %d", brief(s, costs), brief(got, answers), e, values, statuses, want)
	}
	return answers
}

func checkSteps(t *testing.T, s api.System, costs [][]api.Term, values []string, steps []simplex.Answer, want api.Errno) {
	t.Helper()
	if e := CheckSteps(s, costs, values, steps); e != want {
		t.Fatalf("CheckSteps(%s) is %d, want %d", brief(s, costs, values, steps), e, want)
	}
}

func checkStages(t *testing.T, s api.System, costs [][]api.Term, steps []simplex.Answer, want []api.System) {
	t.Helper()
	if got, e := Stages(s, costs, steps); !slices.EqualFunc(got, want, sameRows) || e != api.OK {
		t.Fatalf("Stages(%s) is %s, %d, want %s", brief(s, costs, steps), brief(got), e, brief(want))
	}
}

// checkForms checks that Stages and CheckSteps return an error for the arguments of both.
func checkForms(t *testing.T, s api.System, costs [][]api.Term, steps []simplex.Answer, want api.Errno) {
	t.Helper()
	if got, e := Stages(s, costs, steps); len(got) != 0 || e != want {
		t.Fatalf("Stages(%s) is %s, %d, want %d", brief(s, costs, steps), brief(got), e, want)
	}
	for _, values := range [][]string{nil, list("0"), list("0 x 0")} {
		checkSteps(t, s, costs, values, steps, want)
	}
}

// plainStages returns the stages, as the chapter describes them.
func plainStages(s api.System, costs [][]api.Term, steps []simplex.Answer) []api.System {
	stages := []api.System{s}
	for i := range len(costs) - 1 {
		stages = append(stages, restricted(stages[i], costs[i], number(steps[i].Cost)))
	}
	return stages
}

// plainCheck returns what CheckSteps returns for arguments that are well-formed.
func plainCheck(s api.System, costs [][]api.Term, values []string, steps []simplex.Answer) api.Errno {
	for i, stage := range plainStages(s, costs, steps) {
		a := steps[i]
		if a.Status != simplex.Least || certify.CheckLeast(stage, costs[i], a.Values, a.Mult) != api.OK || valueOf(costs[i], a.Values).RatString() != a.Cost {
			return api.ErrProof
		}
	}
	if !slices.Equal(values, steps[len(steps)-1].Values) {
		return api.ErrProof
	}
	return api.OK
}

// offset is greater than the opposite of any least cost of a drawn system.
const offset = 1000000

// eliminated returns the least cost of a system, and found by elimination: one more column is the cost plus the offset.
func eliminated(t *testing.T, s api.System, cost []api.Term) (*big.Rat, api.Errno) {
	t.Helper()
	raised := api.Row{Terms: append(slices.Clone(cost), api.Term{Col: s.Cols, Coef: "-1"}), Const: strconv.Itoa(offset), Eq: true}
	least, _, _, _, e := elim.Range(api.System{Cols: s.Cols + 1, Rows: append(slices.Clone(s.Rows), raised)}, s.Cols)
	switch {
	case e == api.ErrNone:
		return nil, api.ErrNone
	case e != api.OK:
		t.Fatalf("the elimination for %v and the cost %v fails with %d", s, cost, e)
	case least == "0":
		return nil, api.ErrBound
	}
	x := number(least)
	return x.Sub(x, big.NewRat(offset, 1)), api.OK
}

// drawn makes small systems and costs.
type drawn struct{ *rand.Rand }

func newDrawn(seed int64) drawn {
	return drawn{rand.New(rand.NewSource(seed))}
}

func (d drawn) number() string {
	return big.NewRat(int64(d.Intn(9)-3), int64(1+d.Intn(2))).RatString()
}

func (d drawn) terms(cols int) []api.Term {
	var l []api.Term
	for col := range cols {
		if coef := d.number(); coef != "0" && d.Intn(4) > 0 {
			l = append(l, api.Term{Col: col, Coef: coef})
		}
	}
	return l
}

func (d drawn) system(cols, count int) api.System {
	s := api.System{Cols: cols}
	for range count {
		s.Rows = append(s.Rows, api.Row{Terms: d.terms(cols), Const: d.number(), Eq: d.Intn(6) == 0, Mark: d.Intn(3)})
	}
	return s
}

// costs returns costs, some of which are equal or opposite, or have no terms.
func (d drawn) costs(cols, count int) [][]api.Term {
	var l [][]api.Term
	for range count {
		cost := d.terms(cols)
		if len(l) > 0 && d.Intn(5) == 0 {
			cost = slices.Clone(l[d.Intn(len(l))])
			if d.Intn(2) == 0 {
				for i := range cost {
					x := number(cost[i].Coef)
					cost[i].Coef = x.Neg(x).RatString()
				}
			}
		}
		l = append(l, cost)
	}
	return l
}

package system

import (
	"math/big"
	"math/rand"
	"slices"
	"strconv"
	"strings"
	"testing"

	"cellarer/api"
)

const last = api.MaxCols - 1

// The integers with exactly MaxDigits digits, and with one more.
var (
	longest = strings.Repeat("9", api.MaxDigits)
	tooLong = "1" + strings.Repeat("0", api.MaxDigits)
)

// row returns a row that is written as a text has it, without a check: the words may be wrong.
func row(text string) api.Row {
	r := api.Row{Const: "0"}
	words := strings.Fields(text)
	for i := 0; i < len(words); i++ {
		switch {
		case words[i] == "+":
		case words[i] == "=" || words[i] == ">=":
			r.Eq = words[i] == "="
			i++
		case words[i] == "#":
			r.Mark, _ = strconv.Atoi(words[i+1])
			i++
		case i+1 < len(words) && words[i+1][0] == 'x':
			col, _ := strconv.Atoi(words[i+1][1:])
			r.Terms = append(r.Terms, api.Term{Col: col, Coef: words[i]})
			i++
		default:
			r.Const = words[i]
		}
	}
	return r
}

// rows returns a system with rows that are written as a text has them.
func rows(cols int, texts ...string) api.System {
	s := api.System{Cols: cols}
	for _, text := range texts {
		s.Rows = append(s.Rows, row(text))
	}
	return s
}

// many returns a system with the same row many times.
func many(cols, count int, text string) api.System {
	return rows(cols, slices.Repeat([]string{text}, count)...)
}

// same reports whether two systems are equal, where no terms and no rows may be nil or empty.
func same(a, b api.System) bool {
	return a.Cols == b.Cols && slices.EqualFunc(a.Rows, b.Rows, func(r, q api.Row) bool {
		return slices.Equal(r.Terms, q.Terms) && r.Const == q.Const && r.Eq == q.Eq && r.Mark == q.Mark
	})
}

func check(t *testing.T, what string, got api.System, e api.Errno, want api.System) {
	t.Helper()
	if !same(got, want) || e != api.OK {
		t.Fatalf("%s is %v, %d, want %v", what, got, e, want)
	}
	if e := Check(got); e != api.OK {
		t.Fatalf("%s, which is %v, is not valid: %d", what, got, e)
	}
}

// checkError reports an error if an operation did not fail as it should, without a system.
func checkError(t *testing.T, what string, got api.System, e, want api.Errno) {
	t.Helper()
	if got.Cols != 0 || len(got.Rows) != 0 || e != want {
		t.Errorf("%s is %v, %d, want the error %d", what, got, e, want)
	}
}

func number(s string) *big.Rat {
	x, ok := new(big.Rat).SetString(s)
	if !ok {
		panic("no number: " + s)
	}
	return x
}

// drawn makes systems over few columns.
type drawn struct{ *rand.Rand }

func newDrawn(seed int64) drawn {
	return drawn{rand.New(rand.NewSource(seed))}
}

func (d drawn) number() string {
	n := int64(d.Intn(9) - 4)
	if d.Intn(8) == 0 {
		n *= 1e15
	}
	return big.NewRat(n, int64(1+d.Intn(4))).RatString()
}

func (d drawn) row(cols int) api.Row {
	r := api.Row{Const: d.number(), Eq: d.Intn(3) == 0, Mark: d.Intn(3) - 1}
	for col := range cols {
		if coef := d.number(); coef != "0" && d.Intn(2) == 0 {
			r.Terms = append(r.Terms, api.Term{Col: col, Coef: coef})
		}
	}
	return r
}

func (d drawn) system(cols, rows int) api.System {
	s := api.System{Cols: cols}
	for range rows {
		s.Rows = append(s.Rows, d.row(cols))
	}
	return s
}

func (d drawn) values(cols int) []string {
	values := make([]string, cols)
	for col := range values {
		values[col] = d.number()
	}
	return values
}

// valueOfRow returns the value of a row's form.
func valueOfRow(r api.Row, values []string) *big.Rat {
	total := number(r.Const)
	for _, t := range r.Terms {
		total.Add(total, new(big.Rat).Mul(number(t.Coef), number(values[t.Col])))
	}
	return total
}

// plainViolated returns the index of the first row that values do not satisfy, or -1.
func plainViolated(s api.System, values []string) int {
	return slices.IndexFunc(s.Rows, func(r api.Row) bool {
		sign := valueOfRow(r, values).Sign()
		return sign < 0 || r.Eq && sign > 0
	})
}

func plainHolds(s api.System, values []string) bool {
	return plainViolated(s, values) == -1 && !slices.ContainsFunc(values, func(v string) bool { return number(v).Sign() < 0 })
}

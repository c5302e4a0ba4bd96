package elim

import (
	"math/big"
	"strconv"
	"testing"

	"cellarer/api"
)

// bounds returns a system of three columns in which column 0 has some lower and upper bounds, besides its own one, whose sums are few different rows; other rows do not contain it.
func bounds(lower, upper, others int) api.System {
	s := api.System{Cols: 3}
	add := func(count int, coef string) {
		for i := range count {
			s.Rows = append(s.Rows, api.Row{Const: "0", Terms: []api.Term{{Col: 0, Coef: coef}, {Col: 1, Coef: strconv.Itoa(i + 1)}}})
		}
	}
	add(lower, "1")
	add(upper, "-1")
	for i := range others {
		s.Rows = append(s.Rows, api.Row{Const: strconv.Itoa(-i), Terms: []api.Term{{Col: 2, Coef: "1"}}})
	}
	return s
}

// TestManyRows checks eliminations that make exactly MaxRows rows, and one or more beyond that, before the normal form.
func TestManyRows(t *testing.T) {
	for _, c := range []struct{ lower, upper, others int }{{63, 32, 0}, {31, 64, 0}, {61, 33, 2}, {0, 1024, 1024}, {1023, 1, 1024}, {1024, 0, 1024}, {0, 0, 2048}} {
		s := bounds(c.lower, c.upper, c.others)
		if e := checkEliminate(t, s, 0); e != api.OK {
			t.Errorf("Eliminate with %v bounds and rows fails with %d", c, e)
		}
	}
	for _, c := range []struct{ lower, upper, others int }{{63, 32, 1}, {31, 64, 1}, {64, 32, 0}, {63, 33, 0}, {61, 33, 3}, {682, 3, 0}, {1023, 1024, 0}} {
		s := bounds(c.lower, c.upper, c.others)
		if e := checkEliminate(t, s, 0); e != api.ErrMany {
			t.Errorf("Eliminate with %v bounds and rows has the error %d", c, e)
		}
		got, e := Project(s, 1, 2)
		checkError(t, "Project to more than MaxRows rows", got, e, api.ErrMany)
		checkFeasible(t, s, false, api.ErrMany)
		checkRangeError(t, s, 1, api.ErrMany)
		// Range does not eliminate its own column.
		checkRange(t, s, 0, "0", "-")
	}
	// That there are more rows is found before their numbers are.
	s := bounds(64, 32, 0)
	s.Rows = append(s.Rows, rows(3, "1 x0 + "+longest+" x1 + 7 >= 0").Rows...)
	if e := checkEliminate(t, s, 0); e != api.ErrMany {
		t.Errorf("Eliminate with more than MaxRows rows and long numbers has the error %d", e)
	}
	// An equality never makes more rows.
	s = bounds(1023, 1024, 0)
	s.Rows = append(s.Rows, rows(3, "1 x0 + -1 x2 = 0").Rows...)
	if e := checkEliminate(t, s, 0); e != api.OK {
		t.Errorf("Eliminate with MaxRows rows and an equality fails with %d", e)
	}
}

// TestLongNumbers checks eliminations that make numbers of exactly MaxDigits digits, and of one more.
func TestLongNumbers(t *testing.T) {
	// The powers of 10 and 10^n - 1 have no common divisor.
	almost, power := longest[1:]+"8", tooLong[:api.MaxDigits]
	half, halfPower := longest[:api.MaxDigits/2], tooLong[:api.MaxDigits/2]
	for _, s := range []api.System{
		rows(2, "1 x0 + "+almost+" x1 >= 0", "-1 x0 + 1 x1 + 1 >= 0"),
		rows(2, "1 x0 + "+almost+" >= 0", "-1 x0 + 1 x1 + 1 >= 0"),
		rows(2, longest+" x0 + 1 >= 0", "-1 x0 + 1 x1 >= 0"),
		rows(2, half+" x0 + 1 >= 0", "-"+halfPower+"0 x0 + 1 x1 + 1 >= 0"),
		rows(2, "1 x0 + -"+almost+" x1 = 0", "1 x0 + 1 x1 + -3 >= 0"),
		rows(2, "1 x0 + "+almost+" = 0", "-1 x0 + 1 x1 + 1 = 0"),
		rows(2, longest+" x0 + 1 x1 = 0", "1 x0 + 1 x1 + -1 >= 0"),
		// The longest numbers are those of the normal form.
		rows(2, longest+" x0 + 1 >= 0", "-"+power+" x0 + 1 x1 >= 0"),
	} {
		if e := checkEliminate(t, s, 0); e != api.OK {
			t.Errorf("Eliminate for %v fails with %d", s, e)
		}
	}
	for _, s := range []api.System{
		rows(2, "1 x0 + "+longest+" x1 >= 0", "-1 x0 + 1 x1 + 1 >= 0"),
		rows(2, "1 x0 + "+longest+" >= 0", "-1 x0 + 1 x1 + 1 >= 0"),
		rows(2, longest+" x0 + 1 >= 0", "-2 x0 + 1 x1 + 1 >= 0"),
		rows(2, half+" x0 + 1 >= 0", "-"+halfPower+"00 x0 + 1 x1 + 1 >= 0"),
		rows(2, "1 x0 + -"+longest+" x1 = 0", "1 x0 + 1 x1 + -3 >= 0"),
		rows(2, "1 x0 + "+longest+" = 0", "-1 x0 + 1 x1 + 1 = 0"),
		rows(2, longest+" x0 + 1 x1 = 0", "1 x0 + 2 x1 >= 0"),
		// A solution that there cannot be makes no difference.
		rows(2, "1 x0 + "+longest+" x1 >= 0", "-1 x0 + 1 x1 + 1 >= 0", "1 x1 + 1 = 0"),
		// Only the normal form has a number that is too long.
		rows(2, longest+" x0 + 1 >= 0", "-"+power+" x0 + 3 x1 >= 0"),
	} {
		if e := checkEliminate(t, s, 0); e != api.ErrLong {
			t.Errorf("Eliminate for %v has the error %d, want ErrLong", s, e)
		}
		got, e := Project(s, 1)
		checkError(t, "Project with numbers that become too long", got, e, api.ErrLong)
		checkFeasible(t, s, false, api.ErrLong)
		checkRangeError(t, s, 1, api.ErrLong)
	}
}

// TestLongSteps checks an elimination whose numbers are short, although a product on the way to them is too long.
func TestLongSteps(t *testing.T) {
	ten := func(power int64) *big.Int { return new(big.Int).Exp(big.NewInt(10), big.NewInt(power), nil) }
	factor, divisor := ten(250), ten(200)
	divisor.Add(divisor, big.NewInt(1))
	product := new(big.Int).Mul(factor, factor)
	rounded, rest := new(big.Int).DivMod(product, divisor, new(big.Int))
	if rest.Sign() == 0 || len(product.String()) <= api.MaxDigits {
		t.Fatal("no product that is too long")
	}
	s := rows(2, divisor.String()+" x0 + "+factor.String()+" x1 + -1 = 0", factor.String()+" x0 + "+rounded.String()+" x1 >= 0")
	if e := checkEliminate(t, s, 0); e != api.OK {
		t.Errorf("Eliminate with a long product fails with %d", e)
	}
}

// TestNumbersNearTheLimit checks numbers of about 200 digits, whose products have about MaxDigits digits.
func TestNumbersNearTheLimit(t *testing.T) {
	d := newDrawn(8)
	found := map[api.Errno]int{}
	for range 300 {
		s := d.system(2, 2+d.Intn(2))
		for i, r := range s.Rows {
			for j, term := range r.Terms {
				n := new(big.Int).Rand(d.Rand, new(big.Int).Exp(big.NewInt(10), big.NewInt(int64(150+d.Intn(101))), nil))
				s.Rows[i].Terms[j].Coef = new(big.Rat).Mul(number(term.Coef), new(big.Rat).SetInt(n)).RatString()
			}
		}
		found[checkEliminate(t, s, 0)]++
	}
	if found[api.OK] < 50 || found[api.ErrLong] < 50 {
		t.Errorf("of the drawn systems, %v", found)
	}
}

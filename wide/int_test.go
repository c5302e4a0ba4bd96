package wide

import (
	"math"
	"math/big"
	"math/rand"
	"strconv"
	"strings"
	"testing"
)

// drawn returns count integers of up to 900 digits; a limb is often 0, the greatest one, or half of the base.
func drawn(count int) []*big.Int {
	source := rand.New(rand.NewSource(1))
	numbers := make([]*big.Int, 0, count)
	for len(numbers) < count {
		text := "0"
		for range source.Intn([]int{3, 6, 20, 100}[source.Intn(4)]) {
			limb := []int{0, base - 1, base / 2, base/2 - 1, source.Intn(base), source.Intn(base), source.Intn(10)}[source.Intn(7)]
			text += strconv.Itoa(base + limb)[1:]
		}
		n := parsed(text[source.Intn(min(len(text), limbDigits)):])
		if source.Intn(2) == 0 {
			n.Neg(n)
		}
		numbers = append(numbers, n)
	}
	return numbers
}

// limits returns the integers beside the powers of the base and of 2, where an Int changes its representation or a limb carries.
func limits() []*big.Int {
	numbers := []*big.Int{new(big.Int)}
	for _, power := range []*big.Int{big.NewInt(1), big.NewInt(base), big.NewInt(wordLimit), parsed("1" + strings.Repeat("0", 27)), parsed("1" + strings.Repeat("0", 801)), big.NewInt(math.MaxInt64)} {
		for offset := range 5 {
			n := new(big.Int).Add(power, big.NewInt(int64(offset-2)))
			numbers = append(numbers, n, new(big.Int).Neg(n))
		}
	}
	return numbers
}

// pairs calls a test for all pairs of integers beside limits, and for drawn pairs.
func pairs(test func(a, b *big.Int)) {
	for _, a := range limits() {
		for _, b := range limits() {
			test(a, b)
		}
	}
	numbers := drawn(4000)
	for i := 0; i < len(numbers); i += 2 {
		test(numbers[i], numbers[i+1])
		test(numbers[i], numbers[i])
	}
}

func parsed(text string) *big.Int {
	n, _ := new(big.Int).SetString(text, 10)
	return n
}

// check reports an error if an Int is not the wanted integer, or not in its only representation.
func check(t *testing.T, what string, a, b *big.Int, got Int, want *big.Int) {
	t.Helper()
	if got.Text() != want.String() {
		t.Fatalf("%s of %v and %v is %s, want %v", what, a, b, got.Text(), want)
	}
	if short := new(big.Int).Abs(want).Cmp(big.NewInt(wordLimit)) < 0; short != (got.large == nil) {
		t.Fatalf("%s of %v and %v, which is %v, has limbs: %v", what, a, b, want, got.large != nil)
	}
}

func TestReadAndText(t *testing.T) {
	for _, n := range append(limits(), drawn(1000)...) {
		x := Read(n.String())
		check(t, "Read", n, n, x, n)
		if x.Sign() != n.Sign() {
			t.Errorf("the sign of %v is %d", n, x.Sign())
		}
		if x.IsOne() != (n.String() == "1") {
			t.Errorf("IsOne of %v is %v", n, x.IsOne())
		}
		check(t, "Negated", n, n, x.Negated(), new(big.Int).Neg(n))
	}
}

func TestOf(t *testing.T) {
	for _, n := range append(limits(), big.NewInt(math.MinInt64)) {
		if n.IsInt64() {
			check(t, "Of", n, n, Of(n.Int64()), n)
		}
	}
}

func TestArithmetic(t *testing.T) {
	pairs(func(a, b *big.Int) {
		x, y := Read(a.String()), Read(b.String())
		check(t, "Plus", a, b, x.Plus(y), new(big.Int).Add(a, b))
		check(t, "Minus", a, b, x.Minus(y), new(big.Int).Sub(a, b))
		check(t, "Times", a, b, x.Times(y), new(big.Int).Mul(a, b))
		if got := Compare(x, y); got != a.Cmp(b) {
			t.Fatalf("Compare of %v and %v is %d", a, b, got)
		}
	})
}

func TestDivideDown(t *testing.T) {
	pairs(func(a, b *big.Int) {
		if b.Sign() == 0 {
			return
		}
		quotient, rest := Read(a.String()).DivideDown(Read(b.String()))
		// The quotient is rounded down exactly if the remainder has the sign of b and is less than b.
		wantQuotient, wantRest := new(big.Int).QuoRem(a, b, new(big.Int))
		if wantRest.Sign() == -b.Sign() {
			wantQuotient.Sub(wantQuotient, big.NewInt(1))
			wantRest.Add(wantRest, b)
		}
		check(t, "the quotient", a, b, quotient, wantQuotient)
		check(t, "the remainder", a, b, rest, wantRest)
	})
}

func TestCommonDivisor(t *testing.T) {
	test := func(a, b *big.Int) {
		t.Helper()
		want := new(big.Int).GCD(nil, nil, new(big.Int).Abs(a), new(big.Int).Abs(b))
		check(t, "CommonDivisor", a, b, CommonDivisor(Read(a.String()), Read(b.String())), want)
	}
	pairs(test)
	numbers := drawn(3000)
	for i := 0; i+2 < len(numbers); i += 3 {
		test(new(big.Int).Mul(numbers[i], numbers[i+2]), new(big.Int).Mul(numbers[i+1], numbers[i+2]))
	}
	// With quotients that are all 1, Euclid's algorithm takes the most steps; with great ones the leading digits tell nothing.
	for _, quotients := range [][]int64{{1}, {2, 1}, {1, 1, base}, {wordLimit - 1, 1}, {1, 2, 3, math.MaxInt64}} {
		a, b := big.NewInt(6), new(big.Int)
		for i := 0; a.BitLen() < 2000; i++ {
			next := new(big.Int).Mul(a, big.NewInt(quotients[i%len(quotients)]))
			a, b = next.Add(next, b), a
			test(a, b)
			test(b, new(big.Int).Neg(a))
		}
	}
}

func TestReduced(t *testing.T) {
	test := func(a, b *big.Int) {
		t.Helper()
		if b.Sign() == 0 {
			return
		}
		num, den := Reduced(Read(a.String()), Read(b.String()))
		want := new(big.Rat).SetFrac(a, b)
		check(t, "the numerator of Reduced", a, b, num, want.Num())
		check(t, "the denominator of Reduced", a, b, den, want.Denom())
	}
	pairs(test)
	numbers := drawn(3000)
	for i := 0; i+2 < len(numbers); i += 3 {
		test(new(big.Int).Mul(numbers[i], numbers[i+2]), new(big.Int).Mul(numbers[i+1], numbers[i+2]))
	}
}

// TestOperandsStay checks that no operation changes an operand.
func TestOperandsStay(t *testing.T) {
	pairs(func(a, b *big.Int) {
		x, y := Read(a.String()), Read(b.String())
		x.Plus(y)
		x.Minus(y)
		x.Times(y)
		x.Negated()
		CommonDivisor(x, y)
		if y.Sign() != 0 {
			x.DivideDown(y)
			Reduced(x, y)
		}
		if x.Text() != a.String() || y.Text() != b.String() {
			t.Fatalf("%v and %v have become %s and %s", a, b, x.Text(), y.Text())
		}
	})
}

package integer

import (
	"math"
	"math/big"
	"math/bits"
	"math/rand"
	"strconv"
	"strings"
	"testing"

	"cellarer/api"
)

// base is that of the limbs, near whose powers carries and borrows are likely.
const base = 1_000_000_000

// notCanonical are texts that stand for no integer.
func notCanonical() []string {
	long := strings.Repeat("9", api.MaxDigits+1)
	return []string{
		"", "-", "--1", "-0", "00", "007", "-007", "+1", "+0", " 1", "1 ", "1\n", "1.5", "1e9", "1_000", "0x10", "0b1", "a", "-a", "1-", "1-1",
		"٣", "1\x00", "\x00", "/", ":", "1/", "1:", long, "-" + long, "0" + strings.Repeat("1", 10), strings.Repeat("1", 70000),
	}
}

// canonical are texts beside the limits of limbs, machine integers and canonical texts, without and with a sign.
func canonical() []string {
	texts := []string{"0"}
	for _, digits := range []string{
		"1", "2", "9", "10", "12", "18", "999", "1000", "4294967295", "4294967296",
		"499999999", "500000000", "999999999", "1000000000", "1000000001", "999999999999999999", "1000000000000000000", "1000000000000000001",
		"499999999999999999", "500000000999999999", "1000000000999999999", "999999999000000000", "999999999000000001000000000", "1000000000000000000000000000",
		"9223372036854775807", "9223372036854775808", "9223372036854775809", "18446744073709551615", "18446744073709551616",
		strings.Repeat("9", api.MaxDigits), "1" + strings.Repeat("0", api.MaxDigits-1), strings.Repeat("9", api.MaxDigits/2), "1" + strings.Repeat("0", api.MaxDigits/2),
	} {
		texts = append(texts, digits, "-"+digits)
	}
	return texts
}

// drawn returns count integers of many lengths; a limb is often 0, the greatest one, or half of the base.
func drawn(count int) []string {
	source := rand.New(rand.NewSource(1))
	texts := make([]string, 0, count)
	for len(texts) < count {
		text := ""
		for range source.Intn(10) {
			limb := []int{0, base - 1, base / 2, base/2 - 1, source.Intn(base), source.Intn(base), source.Intn(base)}[source.Intn(7)]
			text += strconv.Itoa(base + limb)[1:]
		}
		n, _ := new(big.Int).SetString("0"+text[source.Intn(len(text)+1)/2:], 10)
		if source.Intn(2) == 0 {
			n.Neg(n)
		}
		texts = append(texts, n.String())
	}
	return texts
}

// pairs calls a test for all pairs of the integers beside limits, and for drawn pairs.
func pairs(test func(a, b string)) {
	for _, a := range canonical() {
		for _, b := range canonical() {
			test(a, b)
		}
	}
	texts := drawn(20000)
	for i := 0; i < len(texts); i += 2 {
		test(texts[i], texts[i+1])
	}
}

func parsed(s string) *big.Int {
	n, _ := new(big.Int).SetString(s, 10)
	return n
}

func TestValid(t *testing.T) {
	for _, s := range append(canonical(), drawn(1000)...) {
		if !Valid(s) {
			t.Errorf("Valid(%q) is false", s)
		}
	}
	for _, s := range notCanonical() {
		if Valid(s) {
			t.Errorf("Valid(%q) is true", s)
		}
	}
	for b := range 256 {
		digit := b >= '0' && b <= '9'
		if got := Valid("1" + string([]byte{byte(b)})); got != digit {
			t.Errorf("Valid of 1 and the byte %d is %v", b, got)
		}
	}
}

func TestOfAndSmall(t *testing.T) {
	numbers := []int64{0, 1, -1, 9, 10, -10, math.MaxInt64, math.MaxInt64 - 1, math.MinInt64, math.MinInt64 + 1, base, -base, base - 1}
	for shift := range 63 {
		numbers = append(numbers, 1<<shift, -1<<shift, 1<<shift-1)
	}
	for _, n := range numbers {
		text := Of(n)
		if want := strconv.FormatInt(n, 10); text != want || !Valid(text) {
			t.Errorf("Of(%d) = %q", n, text)
		}
		if got, ok := Small(text); got != n || !ok {
			t.Errorf("Small(%q) = %d, %v", text, got, ok)
		}
	}
}

func TestSmallOfOtherTexts(t *testing.T) {
	others := notCanonical()
	for _, s := range append(canonical(), drawn(1000)...) {
		n := parsed(s)
		if !n.IsInt64() {
			others = append(others, s)
		} else if got, ok := Small(s); got != n.Int64() || !ok {
			t.Errorf("Small(%q) = %d, %v", s, got, ok)
		}
	}
	for _, s := range others {
		if n, ok := Small(s); n != 0 || ok {
			t.Errorf("Small(%q) = %d, %v, want 0, false", s, n, ok)
		}
	}
}

func TestAddSubMul(t *testing.T) {
	for _, c := range []struct {
		name   string
		got    func(a, b string) (string, api.Errno)
		wanted func(z, a, b *big.Int) *big.Int
	}{
		{"Add", Add, (*big.Int).Add}, {"Sub", Sub, (*big.Int).Sub}, {"Mul", Mul, (*big.Int).Mul},
	} {
		pairs(func(a, b string) {
			want, wantError := c.wanted(new(big.Int), parsed(a), parsed(b)).String(), api.OK
			if len(strings.TrimPrefix(want, "-")) > api.MaxDigits {
				want, wantError = "", api.ErrLong
			}
			if got, e := c.got(a, b); got != want || e != wantError {
				t.Errorf("%s(%q, %q) = %q, %d, want %q, %d", c.name, a, b, got, e, want, wantError)
			}
		})
	}
}

func TestTooLong(t *testing.T) {
	most := strings.Repeat("9", api.MaxDigits)
	power := func(n int) string { return "1" + strings.Repeat("0", n) }
	for _, c := range []struct {
		name    string
		operate func(a, b string) (string, api.Errno)
		a, b    string
		want    string
		e       api.Errno
	}{
		{"Add", Add, most, "0", most, api.OK},
		{"Add", Add, most, "1", "", api.ErrLong},
		{"Add", Add, "-" + most, "-1", "", api.ErrLong},
		{"Add", Add, "-" + most, most, "0", api.OK},
		{"Sub", Sub, "-" + most, "0", "-" + most, api.OK},
		{"Sub", Sub, "-" + most, "1", "", api.ErrLong},
		{"Sub", Sub, most, "-1", "", api.ErrLong},
		{"Sub", Sub, most, most, "0", api.OK},
		{"Mul", Mul, power(200), power(199), power(399), api.OK},
		{"Mul", Mul, power(200), power(200), "", api.ErrLong},
		{"Mul", Mul, "-" + power(200), power(200), "", api.ErrLong},
		{"Mul", Mul, most, "-1", "-" + most, api.OK},
		{"Mul", Mul, most, most, "", api.ErrLong},
		{"Mul", Mul, most, "0", "0", api.OK},
	} {
		if got, e := c.operate(c.a, c.b); got != c.want || e != c.e {
			t.Errorf("%s(%q, %q) = %q, %d, want %q, %d", c.name, c.a, c.b, got, e, c.want, c.e)
		}
	}
}

// TestForm checks that a text that is not canonical is reported before a division by zero, wherever it stands.
func TestForm(t *testing.T) {
	for _, bad := range notCanonical() {
		for _, pair := range [][2]string{{bad, "1"}, {"1", bad}, {bad, "0"}, {"0", bad}, {bad, bad}} {
			a, b := pair[0], pair[1]
			for _, operate := range []func(a, b string) (string, api.Errno){Add, Sub, Mul, Gcd} {
				if got, e := operate(a, b); got != "" || e != api.ErrForm {
					t.Errorf("of %q and %q: %q, %d, want ErrForm", a, b, got, e)
				}
			}
			if q, r, e := DivMod(a, b); q != "" || r != "" || e != api.ErrForm {
				t.Errorf("DivMod(%q, %q) = %q, %q, %d, want ErrForm", a, b, q, r, e)
			}
			if got := Cmp(a, b); got != 0 {
				t.Errorf("Cmp(%q, %q) = %d, want 0", a, b, got)
			}
		}
		if got := Neg(bad); got != "" {
			t.Errorf("Neg(%q) = %q, want an empty text", bad, got)
		}
	}
}

func TestDivMod(t *testing.T) {
	for _, c := range [][4]string{
		{"-7", "2", "-4", "1"}, {"7", "-2", "-4", "-1"}, {"-7", "-2", "3", "-1"}, {"7", "2", "3", "1"}, {"-8", "2", "-4", "0"}, {"8", "-2", "-4", "0"},
		{"-1", "5", "-1", "4"}, {"1", "-5", "-1", "-4"}, {"0", "-5", "0", "0"},
	} {
		if q, r, e := DivMod(c[0], c[1]); q != c[2] || r != c[3] || e != api.OK {
			t.Errorf("DivMod(%q, %q) = %q, %q, %d, want %q, %q", c[0], c[1], q, r, e, c[2], c[3])
		}
	}
	pairs(func(a, b string) {
		if b == "0" {
			return
		}
		x, y := parsed(a), parsed(b)
		want, rest := new(big.Int).QuoRem(x, y, new(big.Int))
		if rest.Sign() != 0 && rest.Sign() != y.Sign() {
			want.Sub(want, big.NewInt(1))
			rest.Add(rest, y)
		}
		if q, r, e := DivMod(a, b); q != want.String() || r != rest.String() || e != api.OK {
			t.Errorf("DivMod(%q, %q) = %q, %q, %d, want %v, %v", a, b, q, r, e, want, rest)
		}
	})
}

func TestDivisionByZero(t *testing.T) {
	for _, a := range canonical() {
		if q, r, e := DivMod(a, "0"); q != "" || r != "" || e != api.ErrZero {
			t.Errorf("DivMod(%q, 0) = %q, %q, %d, want ErrZero", a, q, r, e)
		}
	}
}

func TestGcd(t *testing.T) {
	for _, c := range [][3]string{{"-12", "18", "6"}, {"0", "0", "0"}, {"0", "-5", "5"}, {"-5", "0", "5"}, {"-4", "-4", "4"}, {"1", "0", "1"}} {
		if got, e := Gcd(c[0], c[1]); got != c[2] || e != api.OK {
			t.Errorf("Gcd(%q, %q) = %q, %d, want %q", c[0], c[1], got, e, c[2])
		}
	}
	check := func(a, b string) {
		x, y := parsed(a), parsed(b)
		want := new(big.Int).GCD(nil, nil, x.Abs(x), y.Abs(y)).String()
		if got, e := Gcd(a, b); got != want || e != api.OK {
			t.Errorf("Gcd(%q, %q) = %q, %d, want %q", a, b, got, e, want)
		}
	}
	pairs(check)
	texts := drawn(3000)
	for i := 0; i+2 < len(texts); i += 3 {
		// A common factor makes divisors of many limbs.
		a, _ := Mul(texts[i], texts[i+2])
		b, _ := Mul(texts[i+1], texts[i+2])
		check(a, b)
	}
}

func TestCmp(t *testing.T) {
	pairs(func(a, b string) {
		if got, want := Cmp(a, b), parsed(a).Cmp(parsed(b)); got != want {
			t.Errorf("Cmp(%q, %q) = %d, want %d", a, b, got, want)
		}
	})
}

func TestNeg(t *testing.T) {
	for _, s := range append(canonical(), drawn(1000)...) {
		n := parsed(s)
		if got, want := Neg(s), n.Neg(n).String(); got != want {
			t.Errorf("Neg(%q) = %q, want %q", s, got, want)
		}
	}
}

// TestLaws checks the laws of addition and multiplication, where no result is too long.
func TestLaws(t *testing.T) {
	add := func(a, b string) string { s, e := Add(a, b); return s + errorText(e) }
	mul := func(a, b string) string { s, e := Mul(a, b); return s + errorText(e) }
	texts := drawn(9000)
	for i := 0; i+2 < len(texts); i += 3 {
		a, b, c := texts[i], texts[i+1], texts[i+2]
		for law, sides := range map[string][2]string{
			"a + b = b + a":             {add(a, b), add(b, a)},
			"a * b = b * a":             {mul(a, b), mul(b, a)},
			"(a + b) + c = a + (b + c)": {add(add(a, b), c), add(a, add(b, c))},
			"(a * b) * c = a * (b * c)": {mul(mul(a, b), c), mul(a, mul(b, c))},
			"a * (b + c) = a*b + a*c":   {mul(a, add(b, c)), add(mul(a, b), mul(a, c))},
		} {
			if sides[0] != sides[1] || !Valid(sides[0]) {
				t.Fatalf("%s does not hold for %q, %q, %q: %q and %q", law, a, b, c, sides[0], sides[1])
			}
		}
	}
}

func errorText(e api.Errno) string {
	if e == api.OK {
		return ""
	}
	return " error " + strconv.Itoa(int(e))
}

// TestMachineArithmetic compares with int64 wherever the exact result is in its range.
func TestMachineArithmetic(t *testing.T) {
	numbers := []int64{0, 1, -1, 2, -2, 3, -7, 10, base - 1, base, -base, base * base, math.MaxInt32, math.MinInt32, 3037000499, -3037000499, math.MaxInt64, math.MinInt64, math.MaxInt64 / 2, math.MinInt64 / 2}
	check := func(name string, a, b, want int64, got string, e api.Errno) {
		t.Helper()
		if got != strconv.FormatInt(want, 10) || e != api.OK {
			t.Errorf("%s of %d and %d is %q, %d, want %d", name, a, b, got, e, want)
		}
	}
	for _, a := range numbers {
		for _, b := range numbers {
			if sum := a + b; (sum > a) == (b > 0) {
				got, e := Add(Of(a), Of(b))
				check("Add", a, b, sum, got, e)
			}
			if difference := a - b; (difference < a) == (b > 0) {
				got, e := Sub(Of(a), Of(b))
				check("Sub", a, b, difference, got, e)
			}
			if high, low := bits.Mul64(magnitude(a), magnitude(b)); high == 0 && low <= math.MaxInt64 {
				got, e := Mul(Of(a), Of(b))
				check("Mul", a, b, a*b, got, e)
			}
			if b != 0 && !(a == math.MinInt64 && b == -1) {
				q, r, e := DivMod(Of(a), Of(b))
				want, rest := a/b, a%b
				if rest != 0 && (rest < 0) != (b < 0) {
					want, rest = want-1, rest+b
				}
				check("the quotient", a, b, want, q, e)
				check("the remainder", a, b, rest, r, e)
			}
		}
	}
}

func magnitude(n int64) uint64 {
	if n < 0 {
		return -uint64(n)
	}
	return uint64(n)
}

package rational

import (
	"math/big"
	"math/rand"
	"strings"
	"testing"

	"cellarer/api"
)

func nines(digits int) string { return strings.Repeat("9", digits) }
func zeros(digits int) string { return strings.Repeat("0", digits) }
func tens(digits int) string  { return "1" + zeros(digits-1) }

// The integers beside the limit of MaxDigits digits.
var (
	longest  = nines(api.MaxDigits)
	longTens = tens(api.MaxDigits)
	tooLong  = tens(api.MaxDigits + 1)
	halfTens = tens(api.MaxDigits / 2)
)

// notCanonical are texts that stand for no number.
func notCanonical() []string {
	return []string{
		"", "/", "1/", "/2", "-/2", "-", "--1", "-0", "+1", "007", "1.5", " 1", "1 ", "1\n", "x", "٣",
		"4/2", "2/2", "1/1", "0/1", "0/3", "-0/3", "-1/1", "6/4", "-6/4", "1/0", "0/0", "1/-2", "-1/-2", "1/+2", "+1/2", "01/2", "1/02", "1/2/3", "1//2", "1/2/",
		" 1/2", "1/2 ", "1 /2", "1/ 2", "1/2\n", "1/x", "x/2", "1:2", "1\\2", "1/2.0", "1/2\x00", "½",
		tooLong, "-" + tooLong, tooLong + "/7", "1/" + tooLong, "0" + longest, longest + "/3", longest + "/" + longest, longest + "/" + tooLong, strings.Repeat("7", 70000) + "/2", "1/" + strings.Repeat("7", 70000),
	}
}

// canonical are texts beside the limits of the layer, and of numbers that are short.
func canonical() []string {
	texts := []string{"0"}
	for _, s := range []string{
		"1", "2", "3", "10", "1/2", "1/3", "2/3", "3/2", "5/6", "7/6", "1/10", "999999999/1000000000", "1000000000/999999999", "1/999999999999999999", "1/1000000000000000000",
		"999999999999999999", "1000000000000000000", "9223372036854775807/9223372036854775806", "18446744073709551616/18446744073709551615",
		longest, longTens, longTens + "/" + longest, longest + "/" + longTens, "1/" + longest, "1/" + longTens, longTens + "/3", longTens + "/7", "3/" + longTens, longest + "/7", longest + "/10",
		halfTens, "1/" + halfTens, halfTens + "/7", "7/" + halfTens,
	} {
		texts = append(texts, s, "-"+s)
	}
	return texts
}

// drawn returns count numbers, most of which have common factors with others.
func drawn(count int) []string {
	source := rand.New(rand.NewSource(1))
	integer := func() *big.Int {
		n := big.NewInt(1)
		for range source.Intn([]int{3, 6, 40}[source.Intn(3)]) {
			n.Mul(n, big.NewInt([]int64{2, 3, 5, 7, 360, 1000000007, 1 + source.Int63n(1000000000)}[source.Intn(7)]))
		}
		return n
	}
	texts := make([]string, 0, count)
	for len(texts) < count {
		x := new(big.Rat).SetFrac(integer(), integer())
		if source.Intn(2) == 0 {
			x.Neg(x)
		}
		if source.Intn(20) == 0 {
			x.SetInt64(0)
		}
		texts = append(texts, x.RatString())
	}
	return texts
}

// pairs calls a test for all pairs of the numbers beside limits, and for drawn pairs.
func pairs(test func(a, b string)) {
	for _, a := range canonical() {
		for _, b := range canonical() {
			test(a, b)
		}
	}
	texts := drawn(8000)
	for i := 0; i < len(texts); i += 2 {
		test(texts[i], texts[i+1])
	}
}

func parsed(s string) *big.Rat {
	x, _ := new(big.Rat).SetString(s)
	return x
}

// wanted returns the text and the error that stand for a number.
func wanted(x *big.Rat) (string, api.Errno) {
	if len(new(big.Int).Abs(x.Num()).String()) > api.MaxDigits || len(x.Denom().String()) > api.MaxDigits {
		return "", api.ErrLong
	}
	return x.RatString(), api.OK
}

type operation struct {
	name   string
	got    func(a, b string) (string, api.Errno)
	wanted func(z, a, b *big.Rat) *big.Rat
}

func operations() []operation {
	return []operation{{"Add", Add, (*big.Rat).Add}, {"Sub", Sub, (*big.Rat).Sub}, {"Mul", Mul, (*big.Rat).Mul}, {"Div", Div, (*big.Rat).Quo}}
}

func TestValid(t *testing.T) {
	for _, s := range append(canonical(), drawn(1000)...) {
		if !Valid(s) {
			t.Errorf("Valid(%q) is false", s)
		}
	}
	for _, s := range notCanonical() {
		if Valid(s) {
			t.Errorf("Valid(%q) is true", s)
		}
	}
}

// TestValidShortTexts checks all texts of up to five of the bytes that the layer distinguishes.
func TestValidShortTexts(t *testing.T) {
	const bytes = "012346-/+ "
	texts := []string{""}
	for from := 0; len(texts[from]) < 5; from++ {
		for i := range len(bytes) {
			texts = append(texts, texts[from]+bytes[i:i+1])
		}
	}
	for _, s := range texts {
		x, ok := new(big.Rat).SetString(s)
		// A text that begins with + or has a sign elsewhere is not written back.
		if want := ok && x.RatString() == s; Valid(s) != want {
			t.Errorf("Valid(%q) is %v", s, !want)
		}
	}
}

func TestMake(t *testing.T) {
	for _, c := range [][3]string{
		{"6", "-4", "-3/2"}, {"6", "3", "2"}, {"0", "-5", "0"}, {"-6", "-4", "3/2"}, {"1", "-1", "-1"}, {"-1", "2", "-1/2"},
		{longest, longest, "1"}, {longest, "-" + longTens, "-" + longest + "/" + longTens}, {longTens, "5", "2" + zeros(api.MaxDigits-2)},
	} {
		if got, e := Make(c[0], c[1]); got != c[2] || e != api.OK {
			t.Errorf("Make(%q, %q) = %q, %d, want %q", c[0], c[1], got, e, c[2])
		}
	}
	pairs(func(a, b string) {
		n, d := parsed(a).Num(), parsed(b).Num()
		if d.Sign() == 0 {
			return
		}
		want := new(big.Rat).SetFrac(n, d).RatString()
		if got, e := Make(n.String(), d.String()); got != want || e != api.OK {
			t.Errorf("Make(%v, %v) = %q, %d, want %q", n, d, got, e, want)
		}
	})
}

func TestMakeErrors(t *testing.T) {
	for _, s := range append(notCanonical(), "1/2", "-3/2") {
		for _, c := range [][2]string{{s, "1"}, {"1", s}, {s, "0"}, {"0", s}, {s, s}} {
			if got, e := Make(c[0], c[1]); got != "" || e != api.ErrForm {
				t.Errorf("Make(%q, %q) = %q, %d, want ErrForm", c[0], c[1], got, e)
			}
		}
	}
	for _, s := range []string{"0", "1", "-7", longest} {
		if got, e := Make(s, "0"); got != "" || e != api.ErrZero {
			t.Errorf("Make(%q, 0) = %q, %d, want ErrZero", s, got, e)
		}
	}
}

func TestParts(t *testing.T) {
	for _, s := range append(canonical(), drawn(1000)...) {
		x := parsed(s)
		if n, d, e := Parts(s); n != x.Num().String() || d != x.Denom().String() || e != api.OK {
			t.Errorf("Parts(%q) = %q, %q, %d", s, n, d, e)
		}
	}
	for _, s := range notCanonical() {
		if n, d, e := Parts(s); n != "" || d != "" || e != api.ErrForm {
			t.Errorf("Parts(%q) = %q, %q, %d, want ErrForm", s, n, d, e)
		}
	}
}

func TestOperations(t *testing.T) {
	for _, c := range operations() {
		pairs(func(a, b string) {
			if c.name == "Div" && b == "0" {
				return
			}
			want, wantError := wanted(c.wanted(new(big.Rat), parsed(a), parsed(b)))
			if got, e := c.got(a, b); got != want || e != wantError {
				t.Errorf("%s(%q, %q) = %q, %d, want %q, %d", c.name, a, b, got, e, want, wantError)
			}
		})
	}
}

// TestLimits has the results of the chapter's examples, and results with exactly MaxDigits digits or one more.
func TestLimits(t *testing.T) {
	const digits = api.MaxDigits
	for _, c := range []struct {
		name    string
		operate func(a, b string) (string, api.Errno)
		a, b    string
		want    string // empty if the result is too long
	}{
		{"Add", Add, "1/2", "1/3", "5/6"},
		{"Add", Add, "1/2", "-1/2", "0"},
		{"Sub", Sub, "1/6", "2/3", "-1/2"},
		{"Mul", Mul, "-2/3", "3/2", "-1"},
		{"Mul", Mul, "0", "-2/3", "0"},
		{"Div", Div, "1/2", "-1/4", "-2"},
		{"Div", Div, "0", "-1/4", "0"},
		{"Add", Add, nines(digits-1) + "8", "1", nines(digits)},
		{"Add", Add, nines(digits), "1", ""},
		{"Sub", Sub, "-" + nines(digits-1) + "8", "1", "-" + nines(digits)},
		{"Sub", Sub, "-" + nines(digits), "1", ""},
		{"Add", Add, nines(digits), "-1/2", ""},
		{"Add", Add, "1/" + tens(digits), "1", "1" + zeros(digits-2) + "1/" + tens(digits)},
		{"Add", Add, "1/" + tens(digits), "10", ""},
		{"Add", Add, "1/3", "1/" + tens(digits), "1" + zeros(digits-2) + "3/3" + zeros(digits-1)},
		{"Add", Add, "1/7", "-1/" + tens(digits), nines(digits-2) + "3/7" + zeros(digits-1)},
		{"Add", Add, "1/11", "1/" + tens(digits), ""},
		{"Mul", Mul, tens(digits / 2), tens(digits/2 + 1), tens(digits)},
		{"Mul", Mul, tens(digits/2 + 1), tens(digits/2 + 1), ""},
		{"Mul", Mul, "7/" + tens(digits/2), "-7/" + tens(digits/2+1), "-49/" + tens(digits)},
		{"Mul", Mul, "7/" + tens(digits/2+1), "-7/" + tens(digits/2+1), ""},
		{"Div", Div, "1/" + tens(digits/2), "-" + tens(digits/2+1), "-1/" + tens(digits)},
		{"Div", Div, "1/" + tens(digits/2+1), tens(digits/2 + 1), ""},
		{"Div", Div, "-1/" + nines(digits), "1/" + nines(digits), "-1"},
	} {
		wantError := api.OK
		if c.want == "" {
			wantError = api.ErrLong
		}
		if got, e := c.operate(c.a, c.b); got != c.want || e != wantError {
			t.Errorf("%s(%q, %q) = %q, %d, want %q", c.name, c.a, c.b, got, e, c.want)
		}
	}
}

// TestCancellation has operands whose products are too long, while the result is not.
func TestCancellation(t *testing.T) {
	source := rand.New(rand.NewSource(2))
	integer := func(digits int) *big.Int {
		n := new(big.Int).Rand(source, parsed(tens(digits)).Num())
		return n.Add(n, parsed(tens(digits)).Num())
	}
	test := func(name string, operate func(a, b string) (string, api.Errno), a, b, want *big.Rat) {
		t.Helper()
		text, e := wanted(want)
		if e != api.OK || !Valid(a.RatString()) || !Valid(b.RatString()) {
			t.Fatalf("%s of %v and %v is not a case of this test", name, a, b)
		}
		if got, e := operate(a.RatString(), b.RatString()); got != text || e != api.OK {
			t.Errorf("%s(%v, %v) = %q, %d, want %q", name, a, b, got, e, text)
		}
	}
	for range 200 {
		// Two numbers that are close together: their numerators times the other denominator are too long.
		n, d, other := integer(api.MaxDigits-1), integer(100+source.Intn(90)), integer(1+source.Intn(90))
		near := new(big.Int).Mul(n, other)
		near.Div(near, d)
		a, b := new(big.Rat).SetFrac(n, d), new(big.Rat).SetFrac(near, other)
		test("Sub", Sub, a, b, new(big.Rat).Sub(a, b))
		test("Add", Add, new(big.Rat).Neg(a), b, new(big.Rat).Sub(b, a))

		// Two numbers whose common denominator is too long, but has a factor that the sum has not.
		u, v, factor := integer(150), integer(150), integer(200)
		want := new(big.Rat).SetFrac(integer(20), new(big.Int).Mul(u, v))
		inverse := new(big.Int).ModInverse(v, u)
		if inverse == nil {
			continue
		}
		numerator := new(big.Int).Mul(want.Num(), factor)
		numerator.Mul(numerator, new(big.Int).Div(new(big.Int).Mul(u, v), want.Denom()))
		numerator.Mul(numerator, inverse).Mod(numerator, u)
		a = new(big.Rat).SetFrac(numerator, new(big.Int).Mul(factor, u))
		test("Add", Add, a, new(big.Rat).Sub(want, a), want)

		// Two numbers whose product or quotient has none of their great factors.
		c, e := integer(390), integer(390)
		a, b = new(big.Rat).SetFrac(new(big.Int).Mul(c, big.NewInt(3)), e), new(big.Rat).SetFrac(e, new(big.Int).Mul(c, big.NewInt(7)))
		test("Mul", Mul, a, b, big.NewRat(3, 7))
		test("Div", Div, a, new(big.Rat).Inv(b), big.NewRat(3, 7))
	}
}

func TestOperationErrors(t *testing.T) {
	for _, c := range operations() {
		for _, s := range notCanonical() {
			for _, pair := range [][2]string{{s, "1/2"}, {"1/2", s}, {s, "0"}, {"0", s}, {s, s}, {longest, s}} {
				if got, e := c.got(pair[0], pair[1]); got != "" || e != api.ErrForm {
					t.Errorf("%s(%q, %q) = %q, %d, want ErrForm", c.name, pair[0], pair[1], got, e)
				}
			}
		}
	}
	for _, a := range canonical() {
		if got, e := Div(a, "0"); got != "" || e != api.ErrZero {
			t.Errorf("Div(%q, 0) = %q, %d, want ErrZero", a, got, e)
		}
	}
}

func TestSum(t *testing.T) {
	for _, c := range []struct {
		numbers []string
		want    string
	}{
		{nil, "0"},
		{[]string{}, "0"},
		{[]string{"-1/2"}, "-1/2"},
		{[]string{"1/2", "1/3", "1/6"}, "1"},
		{[]string{"1/2", "-1/2"}, "0"},
		{[]string{longest, "-1", "1", "-" + longest, "-" + longest}, "-" + longest},
		{[]string{longest + "/7", "-" + longest + "/7", "5"}, "5"},
	} {
		if got, e := Sum(c.numbers...); got != c.want || e != api.OK {
			t.Errorf("Sum(%q) = %q, %d, want %q", c.numbers, got, e, c.want)
		}
	}
	texts := drawn(3000)
	for i := 0; i+10 < len(texts); i += 10 {
		numbers := texts[i : i+i%10]
		total, want, wantError := new(big.Rat), "0", api.OK
		for _, s := range numbers {
			if want, wantError = wanted(total.Add(total, parsed(s))); wantError != api.OK {
				break
			}
		}
		if got, e := Sum(numbers...); got != want || e != wantError {
			t.Errorf("Sum(%q) = %q, %d, want %q, %d", numbers, got, e, want, wantError)
		}
	}
}

func TestSumErrors(t *testing.T) {
	for _, c := range []struct {
		numbers []string
		want    api.Errno
	}{
		{[]string{"2/4"}, api.ErrForm},
		{[]string{"1", "2", "+3"}, api.ErrForm},
		{[]string{longest, "1", ""}, api.ErrForm},
		{[]string{tooLong, "-" + tooLong}, api.ErrForm},
		{[]string{longest, "1"}, api.ErrLong},
		{[]string{longest, "1", "-1"}, api.ErrLong},
		{[]string{"1/" + longest, "1/" + longTens, "-1/" + longTens}, api.ErrLong},
		{[]string{"-1", "-" + longest, "1"}, api.ErrLong},
	} {
		if got, e := Sum(c.numbers...); got != "" || e != c.want {
			t.Errorf("Sum(%q) = %q, %d, want %d", c.numbers, got, e, c.want)
		}
	}
}

func TestCmp(t *testing.T) {
	pairs(func(a, b string) {
		if got, want := Cmp(a, b), parsed(a).Cmp(parsed(b)); got != want {
			t.Errorf("Cmp(%q, %q) = %d, want %d", a, b, got, want)
		}
	})
	for _, s := range notCanonical() {
		for _, c := range [][2]string{{s, "1"}, {s, "-1"}, {"1", s}, {"-1", s}, {s, s}} {
			if got := Cmp(c[0], c[1]); got != 0 {
				t.Errorf("Cmp(%q, %q) = %d, want 0", c[0], c[1], got)
			}
		}
	}
}

func TestNeg(t *testing.T) {
	for _, s := range append(canonical(), drawn(1000)...) {
		x := parsed(s)
		if got, want := Neg(s), x.Neg(x).RatString(); got != want {
			t.Errorf("Neg(%q) = %q, want %q", s, got, want)
		}
	}
	for _, s := range notCanonical() {
		if got := Neg(s); got != "" {
			t.Errorf("Neg(%q) = %q, want no text", s, got)
		}
	}
}

func TestFloorAndCeil(t *testing.T) {
	for _, c := range [][3]string{
		{"-1/2", "-1", "0"}, {"1/2", "0", "1"}, {"7/2", "3", "4"}, {"-7/2", "-4", "-3"}, {"-3", "-3", "-3"}, {"0", "0", "0"},
		{longest, longest, longest}, {"-" + longest, "-" + longest, "-" + longest}, {"-1/" + longest, "-1", "0"},
	} {
		floor, e1 := Floor(c[0])
		ceil, e2 := Ceil(c[0])
		if floor != c[1] || ceil != c[2] || e1 != api.OK || e2 != api.OK {
			t.Errorf("Floor and Ceil of %q are %q, %d, %q, %d", c[0], floor, e1, ceil, e2)
		}
	}
	for _, s := range append(canonical(), drawn(1000)...) {
		x := parsed(s)
		// Div rounds down where the divisor is greater than 0.
		want := new(big.Int).Div(x.Num(), x.Denom())
		if floor, e := Floor(s); floor != want.String() || e != api.OK {
			t.Errorf("Floor(%q) = %q, %d, want %v", s, floor, e, want)
		}
		if !x.IsInt() {
			want.Add(want, big.NewInt(1))
		}
		if ceil, e := Ceil(s); ceil != want.String() || e != api.OK {
			t.Errorf("Ceil(%q) = %q, %d, want %v", s, ceil, e, want)
		}
	}
	for _, s := range notCanonical() {
		floor, e1 := Floor(s)
		ceil, e2 := Ceil(s)
		if floor != "" || ceil != "" || e1 != api.ErrForm || e2 != api.ErrForm {
			t.Errorf("Floor and Ceil of %q are %q, %d, %q, %d", s, floor, e1, ceil, e2)
		}
	}
}

// TestLaws checks the laws of arithmetic wherever no result is too long.
func TestLaws(t *testing.T) {
	failed := false
	by := func(operate func(a, b string) (string, api.Errno)) func(a, b string) string {
		return func(a, b string) string {
			s, e := operate(a, b)
			failed = failed || e != api.OK
			return s
		}
	}
	add, sub, mul, div := by(Add), by(Sub), by(Mul), by(Div)
	texts, held := drawn(6000), 0
	for i := 0; i+2 < len(texts); i += 3 {
		a, b, c := texts[i], texts[i+1], texts[i+2]
		laws := [][3]string{
			{"a + b = b + a", add(a, b), add(b, a)},
			{"a * b = b * a", mul(a, b), mul(b, a)},
			{"(a + b) + c = a + (b + c)", add(add(a, b), c), add(a, add(b, c))},
			{"(a * b) * c = a * (b * c)", mul(mul(a, b), c), mul(a, mul(b, c))},
			{"a * (b + c) = a*b + a*c", mul(a, add(b, c)), add(mul(a, b), mul(a, c))},
			{"(a + b) - b = a", sub(add(a, b), b), a},
			{"a - b = a + -b", sub(a, b), add(a, Neg(b))},
		}
		if b != "0" {
			laws = append(laws, [3]string{"(a * b) / b = a", div(mul(a, b), b), a})
		}
		if Cmp(a, b) != Cmp(add(a, c), add(b, c)) || Cmp(a, b) != -Cmp(b, a) || (Cmp(a, b) == 0) != (a == b) {
			laws = append(laws, [3]string{"the order is compatible with Add", "no", "yes"})
		}
		if failed {
			failed = false
			continue
		}
		held++
		for _, law := range laws {
			if law[1] != law[2] || !Valid(law[1]) {
				t.Fatalf("%s does not hold for %q, %q, %q: %q and %q", law[0], a, b, c, law[1], law[2])
			}
		}
	}
	if held < 1000 {
		t.Errorf("only %d cases have results that are not too long", held)
	}
}

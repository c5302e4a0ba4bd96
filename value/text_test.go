package value

import (
	"math"
	"slices"
	"strings"
	"testing"

	"cellarer/api"
)

// checkPlain compares what Parse returns for a text and all types with a plain function.
func checkPlain(t *testing.T, d []api.Data, text string) map[api.Errno]int {
	t.Helper()
	count := map[api.Errno]int{}
	for of := range api.Type(len(d) + 1) {
		want, e := plainParse(d, of, text)
		checkParse(t, d, of, text, want, e)
		count[e]++
	}
	return count
}

// TestFree has texts that are written freely, and the values that they stand for.
func TestFree(t *testing.T) {
	d := mixed()
	for _, c := range []struct {
		of   api.Type
		want string
		text []string
	}{
		{api.Int, "0", []string{"0", " 0", "0 ", "  0  ", "-0", "00", "-000", strings.Repeat("0", 1000)}},
		{api.Int, "7", []string{"7", "07", "  0007 ", strings.Repeat("0", api.MaxSource-1) + "7"}},
		{api.Int, "-12", []string{"-12", " -0012"}},
		{api.Int, "9223372036854775807", []string{"9223372036854775807", "0009223372036854775807"}},
		{api.Int, "-9223372036854775808", []string{"-9223372036854775808", "-09223372036854775808"}},
		{api.Bool, "True", []string{"True", " True", "True  "}},
		{listType, "Nil", []string{"Nil", "   Nil"}},
		{listType, "Cons (-1) Nil", []string{"Cons (-1) Nil", "Cons -1 Nil", " Cons  -1  Nil ", "Cons(-1)Nil", "Cons(-1)(Nil)", "Cons ( -1 ) ( Nil )", "Cons -1(Nil)", "Cons(-01)Nil"}},
		{listType, "Cons 1 (Cons 2 Nil)", []string{"Cons 1 (Cons 2 Nil)", "Cons(1)(Cons(2)(Nil))", "Cons 1(Cons 2 Nil)", "Cons 1   (   Cons   2   Nil   )   "}},
		{treeType, "Node (Leaf 5) Nil None", []string{"Node (Leaf 5) Nil None", "Node(Leaf 5)Nil None", "Node(Leaf(5))(Nil)None"}},
		{pairType, "Pair (Box 1) Green 2 True (P2 (Box 3) (Box 4)) (Box 5)", []string{"Pair(Box 1)Green 2 True(P2(Box 3)(Box 4))(Box 5)", "Pair (Box (1)) (Green) (2) (True) (P2 (Box 3) (Box 4)) (Box 5)"}},
	} {
		for _, text := range c.text {
			checkParse(t, d, c.of, text, read(d, c.want), api.OK)
			checkPlain(t, d, text)
		}
	}
}

// TestNotFree has texts that are not written freely, for all types.
func TestNotFree(t *testing.T) {
	d := mixed()
	for _, text := range []string{
		"", " ", "    ", "-", "--1", "- 1", "-  1", "+1", "+", "1-", "1-1", "1 -", "1 1", "1 Nil", "1 (1)", "1()", "(1)", "(Nil)", "()", "(", ")", ")(", "((1))", "Cons ()", "Cons () Nil", "Cons ((1)) Nil", "Cons 1 ((Nil))", "Cons (1) (Nil", "Cons 1 Nil)", "Cons 1) Nil",
		"Cons 1 (Cons 2 Nil", "Cons (1 1) Nil", "Cons (1 Nil)", "Cons (1)) Nil", "Cons1-1 Nil", "Cons-1 Nil", "Cons 1Nil", "Cons 1 nil", "nil", "cons 1 nil", "Cons 1 _", "_", "_Nil", "Cons 1, Nil", "Cons 1;Nil", "Nil.", "N-il", "Nil-", "Nil\n", "\nNil", "Nil\t", "Cons\t1 Nil", "Cons 1\nNil",
		"Nil\x00", "\x00", "Nil\xff", "\xff", "Nil\u00e9", "\u00c9", "Cons\u00a01 Nil", "Cons\u20031 Nil", "Cons \uff11 Nil", "\u039d", "Cons 1\u3000Nil", "1.0", "1e3", "0x1", "1_000", "1,0", "9223372036854775808", "-9223372036854775809", "99999999999999999999", "0009223372036854775808", "Cons 9223372036854775808 Nil", "Unknown 9223372036854775808", "Unknown )", "[]", "\"\"", "#0", "Cons 0#0",
	} {
		checkParseAll(t, d, text, api.ErrSyntax)
	}
}

// checkParseAll checks that Parse returns an error for all types.
func checkParseAll(t *testing.T, d []api.Data, text string, want api.Errno) {
	t.Helper()
	for of := range api.Type(len(d) + 1) {
		checkParse(t, d, of, text, api.Value{}, want)
		if got, e := plainParse(d, of, text); !Same(got, api.Value{}) || e != want {
			t.Fatalf("the plain value of %q is %v, %d", text, got, e)
		}
	}
}

// TestUnknown has Names that are no names of constructors, in texts that are written freely. This precedes wrong types.
func TestUnknown(t *testing.T) {
	d := mixed()
	long := "N" + strings.Repeat("o", api.MaxSource-1)
	for _, text := range []string{
		"Node2", "List", "Int", "Bool", "NIL", "Nil_", "Ni", "X", "A1_b", "Cons 1 Nul", "Cons Nul Nil", "Cons 1 (Nul)", "Cons 1 (Nul 5 6)", "Nul 1 2", "Nul (Cons 1 Nil)", "Cons 1 2 3 Nul", "Cons Nul", "Leaf Nil Nil Nul", "Nul Nul Nul", "Cons (Cons (Cons (Nul)))", long, "Cons 1" + strings.Repeat(" ", 100) + "Nul", "X" + strings.Repeat("x", api.MaxName), "Cons 0 X" + strings.Repeat("x", 2*api.MaxName),
	} {
		checkParseAll(t, d, text, api.ErrNone)
	}
}

// TestOtherTypes has texts of values that do not have any of the types, or only one.
func TestOtherTypes(t *testing.T) {
	d := mixed()
	for _, text := range []string{
		"Cons", "Cons 1", "Cons 1 Nil Nil", "Cons Nil", "Cons Nil 1", "Cons Nil Nil", "Cons 1 2", "Cons 1 True", "Cons 1 Cons", "Cons 1 Cons 2 Nil", "Nil 1", "Nil Nil", "Nil (Nil)", "True False", "True 1", "Red 0", "Cons True Nil", "Cons 1 None", "Cons 1 (Leaf 1)", "Cons 1 End", "Cons 1 (Link End)", "Cons 1 (Nil 1)", "Cons (Box 1) Nil",
		"Leaf", "Leaf Nil", "Leaf 1 2", "Node None None Nil", "Node Nil Nil Nil", "Node None Nil (Cons 1 Nil)", "Box", "Box Nil", "Box (Box 1)", "Other 1", "Pair (Box 1) True 2 True (P2 (Box 3) (Box 4)) (Box 5)", "Pair (Box 1) Green 2 Red (P2 (Box 3) (Box 4)) (Box 5)", "Link", "Link Nil", "Link 1", "Link End End", "Link (Link (Link Nil))",
	} {
		checkParseAll(t, d, text, api.ErrType)
	}
	for _, text := range []string{"5", "-5", "True", "Nil", "None", "Red", "End", "Other", "Cons 1 Nil", "Leaf 1", "Box 1", "Link End", "P2 (Box 1) (Box 2)"} {
		count := checkPlain(t, d, text)
		if count[api.OK] != 1 || count[api.ErrType] != len(d) {
			t.Errorf("%q has the errors %v", text, count)
		}
	}
}

// TestShort has all texts of a few tokens.
func TestShort(t *testing.T) {
	d := table("List = Nil | Cons Int List", "Box = Box Bool")
	tokens := []string{"Nil", "Cons", "Box", "True", "No", "1", "-1", "-", "(", ")", " ", "x"}
	count := map[api.Errno]int{}
	var extend func(text string, left int)
	extend = func(text string, left int) {
		for e, n := range checkPlain(t, d, text) {
			count[e] += n
		}
		if left > 0 {
			for _, token := range tokens {
				extend(text+token, left-1)
			}
		}
	}
	extend("", 3)
	for _, begin := range []string{"Cons 1 ", "Cons 1", "Cons(", "Cons (1) (", "Cons 1 (Cons 2 Nil", "Box", "Box "} {
		extend(begin, 3)
	}
	for _, e := range []api.Errno{api.OK, api.ErrSyntax, api.ErrNone, api.ErrType} {
		if count[e] < 50 {
			t.Errorf("only %d texts have the error %d", count[e], e)
		}
	}
}

// TestDrawnTexts has drawn values in drawn texts, which are also changed at one byte.
func TestDrawnTexts(t *testing.T) {
	d := mixed()
	r := newDrawn(4)
	bytes := []byte(" ()-09ANab_x\n\x00\xff+,")
	count := map[api.Errno]int{}
	for range 10000 {
		of := api.Type(r.Intn(len(d) + 1))
		v := r.value(d, of, r.Intn(5))
		text := strings.Repeat(" ", r.Intn(2)) + r.free(d, of, v) + strings.Repeat(" ", r.Intn(2))
		checkParse(t, d, of, text, v, api.OK)
		changed := []byte(text)
		at := r.Intn(len(changed))
		switch r.Intn(3) {
		case 0:
			changed[at] = bytes[r.Intn(len(bytes))]
		case 1:
			changed = slices.Insert(changed, at, bytes[r.Intn(len(bytes))])
		case 2:
			changed = slices.Delete(changed, at, at+1)
		}
		want, e := plainParse(d, of, string(changed))
		checkParse(t, d, of, string(changed), want, e)
		count[e]++
	}
	for _, e := range []api.Errno{api.OK, api.ErrSyntax, api.ErrNone, api.ErrType} {
		if count[e] < 50 {
			t.Errorf("only %d texts have the error %d", count[e], e)
		}
	}
}

// TestLongestText has values whose texts have exactly as many bytes as there may be, and one more or less.
func TestLongestText(t *testing.T) {
	d := table("Chain = E Int | C Chain")
	const chain = 2
	for length := api.MaxSource - 9; length < api.MaxSource+10; length++ {
		for digits := range 17 {
			// Each C has four bytes, together with its space and its parentheses.
			rest := length - len("E ") - digits
			if digits == 0 || rest%4 > 0 {
				continue
			}
			v := api.Value{Args: []api.Value{{Num: int64(math.Pow10(digits - 1))}}}
			for range rest / 4 {
				v = api.Value{Con: 1, Args: []api.Value{v}}
			}
			want, e := strings.Repeat("C (", rest/4)+"E 1"+strings.Repeat("0", digits-1)+strings.Repeat(")", rest/4), api.OK
			if length > api.MaxSource {
				checkParse(t, d, chain, want, api.Value{}, api.ErrLong)
				want, e = "", api.ErrLong
			} else {
				checkParse(t, d, chain, want, v, api.OK)
			}
			checkResults(t, d, chain, v, rest/4+1, []int{1, rest / 4}, want, e)
		}
	}
}

// TestLongText has texts with exactly as many bytes as there may be, and with one more, whatever they are.
func TestLongText(t *testing.T) {
	d := mixed()
	pad := func(text string, length int) string { return text + strings.Repeat(" ", length-len(text)) }
	for _, c := range []struct {
		of   api.Type
		text string
		want string
		e    api.Errno
	}{{api.Int, "5", "5", api.OK}, {listType, "Cons 1 Nil", "Cons 1 Nil", api.OK}, {listType, "Cons 1 (", "0", api.ErrSyntax}, {listType, "No", "0", api.ErrNone}, {listType, "Cons 1", "0", api.ErrType}} {
		checkParse(t, d, c.of, pad(c.text, api.MaxSource), read(d, c.want), c.e)
		for _, length := range []int{api.MaxSource + 1, 2 * api.MaxSource} {
			checkParse(t, d, c.of, pad(c.text, length), api.Value{}, api.ErrLong)
		}
	}
	// The deepest texts.
	depth := (api.MaxSource - len("End")) / len("Link()")
	v := read(d, "End")
	for range depth {
		v = api.Value{Con: 1, Args: []api.Value{v}}
	}
	checkParse(t, d, chainType, strings.Repeat("Link(", depth)+"End"+strings.Repeat(")", depth), v, api.OK)
	checkParse(t, d, chainType, strings.Repeat("Link(", depth)+"End"+strings.Repeat(")", depth-1), api.Value{}, api.ErrSyntax)
	checkParse(t, d, chainType, strings.Repeat("Link(", depth)+"Eng"+strings.Repeat(")", depth), api.Value{}, api.ErrNone)
	checkParse(t, d, chainType, strings.Repeat("Link(", depth)+"Nil"+strings.Repeat(")", depth), api.Value{}, api.ErrType)
	checkParse(t, d, chainType, strings.Repeat("A(", api.MaxSource/2), api.Value{}, api.ErrSyntax)
	checkParse(t, d, chainType, strings.Repeat("(", api.MaxSource), api.Value{}, api.ErrSyntax)
	checkParse(t, d, chainType, "A"+strings.Repeat(" A", api.MaxSource/2-1), api.Value{}, api.ErrNone)
}

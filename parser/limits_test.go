package parser

import (
	"strings"
	"testing"

	"cellarer/api"
)

// checkSize checks that a source has a number of leaves, or an error without an offset.
func checkSize(t *testing.T, read reading, src string, leaves int, want api.Errno) {
	t.Helper()
	if want != api.OK {
		checkError(t, read, src, 0, want)
		return
	}
	if tree, at, e := read(src); len(tree.Leaves) != leaves || at != 0 || e != api.OK {
		t.Fatalf("%s has %d leaves, %d, %d, want %d", brief(src), len(tree.Leaves), at, e, leaves)
	}
}

func TestMostLeaves(t *testing.T) {
	// Each source has some leaves, and one for each further part.
	for _, c := range []struct {
		read              reading
		before, part, end string
		leaves, each      int
	}{
		{Expr, "A", " 1", "", 1, 1}, {Expr, "f", " x", "", 1, 1}, {Expr, "A", "(((B)))", "", 1, 1}, {Expr, "A", " (f x)", "", 1, 2},
		{Expr, "match x with | A", " _", " -> 1 end", 5, 1}, {Expr, "match x with | A", "(1)", " -> 1 end", 5, 1}, {Expr, "view x with | _ -> 1 ", "| _ -> 1 ", "end", 5, 3},
		{Parse, "module m", " import a (x)", "", 1, 2}, {Parse, "module m import a (x", ",x", ")", 3, 1}, {Parse, "module m data D = C", " | C", "", 3, 1}, {Parse, "module m data D = C", " T", "", 3, 1},
		{Parse, "module m", " data D = C", "", 1, 2}, {Parse, "module m", " fun f:T=1", "", 1, 3}, {Parse, "module m fun f", "(x:T)", ":T=1", 4, 2}, {Parse, "module m fun f:T=A", " 1", "", 4, 1},
	} {
		parts := (api.MaxNodes - c.leaves) / c.each
		leaves := c.leaves + parts*c.each
		checkSize(t, c.read, c.before+strings.Repeat(c.part, parts)+c.end, leaves, api.OK)
		checkSize(t, c.read, c.before+strings.Repeat(c.part, parts+1)+c.end, 0, api.ErrMany)
		checkSize(t, c.read, c.before+strings.Repeat(c.part, 2*parts)+c.end, 0, api.ErrMany)
	}
	// As many scrutinees as patterns.
	for n, e := range map[int]api.Errno{(api.MaxNodes - 3) / 2: api.OK, (api.MaxNodes - 3 + 1) / 2: api.ErrMany} {
		src := "match 1" + strings.Repeat(",1", n-1) + " with | _" + strings.Repeat(",_", n-1) + " -> 1 end"
		if e == api.OK {
			checkSize(t, Expr, src, 2*n+3, api.OK)
			checkSize(t, Expr, strings.Replace(src, "with | _", "with | A _", 1), 2*n+4, api.OK)
		} else {
			checkSize(t, Expr, src, 0, e)
		}
	}
}

func TestGreatestDepth(t *testing.T) {
	// Each source has a depth, and one more for each further pair of parts.
	for _, c := range []struct {
		read                       reading
		before, open, x, shut, end string
		depth, each                int
	}{
		{Expr, "", "f (", "x", ")", "", 0, 1}, {Expr, "", "C (", "1", ")", "", 0, 1}, {Expr, "", "copy (", "x", ")", "", 0, 1}, {Expr, "", "1 + (", "x", ")", "", 0, 1}, {Expr, "", "((", "x", ") < 1)", "", 0, 1},
		{Expr, "", "", "1", " + 1", "", 0, 1}, {Expr, "", "", "1", " * 1", "", 0, 1}, {Expr, "", "let x = ", "1", " in 1", "", 0, 1}, {Expr, "", "let x = 1 in ", "1", "", "", 0, 1},
		{Expr, "", "if ", "1", " then 1 else 1", "", 0, 1}, {Expr, "", "if 1 then ", "1", " else 1", "", 0, 1}, {Expr, "", "if 1 then 1 else ", "1", "", "", 0, 1},
		{Expr, "", "match ", "1", " with | _ -> 1 end", "", 1, 1}, {Expr, "", "view x with | _ -> ", "1", " end", "", 0, 2}, {Expr, "match x with | ", "A (", "_", ")", " -> 1 end", 2, 1}, {Expr, "match x with | ", "A x (", "B", ")", " -> 1 end", 2, 1},
		{Parse, "module m fun f : T = ", "f (", "x", ")", "", 2, 1}, {Parse, "module m fun f : T = ", "", "1", " - 1", "", 2, 1}, {Parse, "module m fun f : T = ", "let x = 1 in ", "1", "", " data D = C", 2, 1},
	} {
		source := func(count int) string {
			return c.before + strings.Repeat(c.open, count) + c.x + strings.Repeat(c.shut, count) + c.end
		}
		most := (api.MaxDepth - c.depth) / c.each
		if tree, at, e := c.read(source(most)); len(tree.Leaves) < most || at != 0 || e != api.OK {
			t.Fatalf("%s returns %d, %d", brief(source(most)), at, e)
		}
		checkError(t, c.read, source(most+1), 0, api.ErrDeep)
		checkError(t, c.read, source(5*most), 0, api.ErrDeep)
		// A syntax error comes first, wherever it is.
		checkError(t, c.read, source(most+1)+" )", len(source(most+1))+1, api.ErrSyntax)
	}
	// Parentheses make nothing deeper.
	checkSize(t, Expr, "f ("+strings.Repeat("(", 1000)+"x"+strings.Repeat(")", 1000)+")", 2, api.OK)
}

func TestOrderOfLimits(t *testing.T) {
	deep := strings.Repeat("f (", api.MaxDepth+1) + "x" + strings.Repeat(")", api.MaxDepth+1)
	many := "A" + strings.Repeat(" 1", api.MaxNodes)
	checkError(t, Expr, deep, 0, api.ErrDeep)
	checkError(t, Expr, many, 0, api.ErrMany)
	checkError(t, Expr, many+" ("+deep+")", 0, api.ErrMany)
	checkError(t, Expr, deep+" + "+many, 0, api.ErrMany)
	checkError(t, Parse, "module m fun f : T = "+deep+" fun f : T = "+many, 0, api.ErrMany)
	for _, src := range []string{deep, many, many + " (" + deep + ")"} {
		checkError(t, Expr, src+" in", len(src)+1, api.ErrSyntax)
		checkError(t, Expr, src+" +", len(src)+2, api.ErrSyntax)
		checkError(t, Expr, src+" + ?", len(src)+3, api.ErrSyntax)
		checkError(t, Expr, src+" + \x00", len(src)+3, api.ErrText)
		checkError(t, Expr, src+" + 9223372036854775808", len(src)+3, api.ErrRange)
		checkError(t, Parse, "module m fun f : T = "+src+" in", len(src)+22, api.ErrSyntax)
	}
	// Sums and parentheses that are as deep as a source is long.
	for _, open := range []string{"(", "f(", "let x=", "let x=1 in ", "if ", "match ", "1+(", "copy(", "view x with|_->"} {
		src := strings.Repeat(open, api.MaxSource/len(open))
		checkError(t, Expr, src, len(src), api.ErrSyntax)
	}
	for _, src := range []string{"1" + strings.Repeat("+1", 30000), "1" + strings.Repeat("*1", 30000), strings.Repeat("f(", 20000) + "x" + strings.Repeat(")", 20000)} {
		checkError(t, Expr, src, 0, api.ErrMany)
	}
}

func TestLongestSources(t *testing.T) {
	full := strings.Repeat(" ", api.MaxSource)
	checkExprOfLength := func(src string) {
		t.Helper()
		checkTree(t, Expr, src, "(name x)")
		checkError(t, Expr, src+" ", 0, api.ErrLong)
	}
	checkExprOfLength("x" + full[1:])
	checkExprOfLength(full[1:] + "x")
	checkExprOfLength(strings.Repeat("(", api.MaxSource/2-1) + " x" + strings.Repeat(")", api.MaxSource/2-1))
	module := "module m fun f : T = x"
	checkTree(t, Parse, full[len(module):]+module, "(module m (fun f (type T) (name x)))")
	checkTree(t, Parse, module+"--"+strings.Repeat("x", api.MaxSource-len(module)-2), "(module m (fun f (type T) (name x)))")
	checkError(t, Parse, full[len(module)-1:]+module, 0, api.ErrLong)
	checkError(t, Expr, full, api.MaxSource, api.ErrSyntax)
	checkError(t, Parse, full, api.MaxSource, api.ErrSyntax)
	long := strings.Repeat("x", api.MaxName)
	checkTree(t, Expr, long, "(name "+long+")")
	checkError(t, Expr, "f "+long+"x", 2, api.ErrLong)
}

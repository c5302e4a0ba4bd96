package core

import (
	"slices"
	"strings"
	"testing"

	"cellarer/api"
)

// checkLines checks lines that may stand behind a text, and lines that may not, where other wrong lines follow.
func checkLines(t *testing.T, before string, right, wrong []string, after string) {
	t.Helper()
	for _, line := range right {
		text := before + line + "\n" + after
		want, at, e := plainParse(text)
		if e != api.OK {
			t.Errorf("the plain error of %q is %d at %d", text, e, at)
		}
		checkParse(t, text, want, 0, api.OK)
		checkText(t, want, text, api.OK)
		// Without the line feed, or without its last byte.
		checkParseError(t, before+line, len(before), api.ErrSyntax)
		// Whatever follows, the first line counts.
		checkParseError(t, text+"\n", len(text), api.ErrSyntax)
		checkParseError(t, text+" ", len(text), api.ErrSyntax)
	}
	for _, line := range wrong {
		checkParseError(t, before+line+"\n"+after, len(before), api.ErrSyntax)
		checkParseError(t, before+line+"\n", len(before), api.ErrSyntax)
		checkParseError(t, before+line+"\n\n\n", len(before), api.ErrSyntax)
	}
}

// spaced returns texts of a right line with spaces that are wrong.
func spaced(line string) []string {
	out := []string{line + " ", " " + line, "  " + line, line + "\r", "\t" + line, line + "\x00", line + "\u00a0"}
	if strings.HasPrefix(line, " ") {
		out = append(out, line[1:], strings.TrimLeft(line, " "), "\t"+line[1:])
	}
	indent := len(line) - len(strings.TrimLeft(line, " "))
	for i := indent; i < len(line); i++ {
		if line[i] != ' ' {
			continue
		}
		out = append(out, line[:i]+" "+line[i:], line[:i]+"\t"+line[i+1:])
		// Without the space, two words could make another one.
		if strings.ContainsAny(line[i-1:i+2], "=|_:,()-") || !strings.Contains(line[indent:i], " ") {
			out = append(out, line[:i]+line[i+1:])
		}
	}
	return out
}

func TestDataLines(t *testing.T) {
	checkLines(t, "", []string{"data A = B", "data A = A", "data A = Int", "data A = Bool Int Bool | C A", "data X_1y = Yz_ | Q0 X_1y Int", "data AInt = B", "data Let = B"}, []string{
		"data", "data ", "data A", "data A =", "data A = ", "data A = |", "data A = B |", "data A = B | ", "data A = | B", "data A = B || C", "data A = B |C", "data A = B| C", "data A B", "data A= B", "data A =B", "data A = B = C", "data a = B", "data A = b", "data A = B c", "data A = B | c", "data A = B int", "data Int = B", "data Int = Int",
		"data _A = B", "data 1 = B", "data A = _", "data A = B 1", "data A = B (C)", "data A = B,C", "data A = É", "data A.B = C", "data A = B.C", "Data A = B", "dat A = B", "type A = B", "data A = B.", "data A = B;", "", "\x00", "-- data A = B", "data A = B -- C", "|", "ret v0", "  ret v0",
	}, "")
	checkLines(t, "data A = B\n", nil, spaced("data C = D Int | E A"), "")
	checkLines(t, "data A = B\n", []string{"data C = D Int | E A"}, nil, "data F = G C\nextern f(): Int\n")
	// Data types come before functions.
	checkLines(t, "extern f(): Int\n", nil, []string{"data A = B"}, "")
	checkLines(t, "fun f(): Int\n  v0 = 1\n  ret v0\n", nil, []string{"data A = B"}, "extern g(): Int\n")
	checkLines(t, "fun f(): Int\n", nil, []string{"data A = B"}, "  v0 = 1\n  ret v0\n")
	// No line at all.
	checkParse(t, "", api.Program{Datas: []api.Data{{Name: "Bool", Cons: []api.Con{{Name: "False"}, {Name: "True"}}}}}, 0, api.OK)
}

func TestFunctionLines(t *testing.T) {
	rest := "extern g(): Int\n"
	checkLines(t, types, []string{"extern f(): Int", "extern f(v0: Int): List", "extern f(read v0: List): Bool", "extern f(v0: List, read v1: Tree, v2: Color): Int", "extern a.b(v0: Int, v1: Int, v2: Int, v3: Int, v4: Int, v5: Int): Int", "extern extern(): Int", "extern fun.data(): Int", "extern v0(v0: Int): Int", "extern read(read v0: List): Int", "extern xY_9.zZ_0(): Int"}, []string{
		"extern", "extern ", "extern f", "extern f(", "extern f()", "extern f():", "extern f(): ", "extern f() Int", "extern f():Int", "extern f() : Int", "extern f (): Int", "extern f( ): Int", "extern (): Int", "extern F(): Int", "extern f.F(): Int", "extern f.(): Int", "extern .f(): Int", "extern f.g.h(): Int", "extern f..g(): Int", "extern _f(): Int", "extern 1(): Int", "extern é(): Int",
		"extern f(): int", "extern f(): 1", "extern f(): _", "extern f(): Int Int", "extern f(): (Int)", "extern f()): Int", "extern f((): Int", "extern f(v0): Int", "extern f(v0:): Int", "extern f(v0: ): Int", "extern f(v0 Int): Int", "extern f(v0:Int): Int", "extern f(v0 : Int): Int", "extern f(v0: int): Int", "extern f(Int): Int", "extern f(: Int): Int", "extern f(v: Int): Int", "extern f(V0: Int): Int", "extern f(x: Int): Int", "extern f(0: Int): Int", "extern f(v00: Int): Int", "extern f(v-0: Int): Int", "extern f(v+0: Int): Int",
		"extern f(v1: Int): Int", "extern f(v1: Int, v0: Int): Int", "extern f(v0: Int, v0: Int): Int", "extern f(v0: Int, v2: Int): Int", "extern f(v0: Int v1: Int): Int", "extern f(v0: Int,v1: Int): Int", "extern f(v0: Int , v1: Int): Int", "extern f(v0: Int,  v1: Int): Int", "extern f(v0: Int, ): Int", "extern f(v0: Int,): Int", "extern f(, v0: Int): Int", "extern f(v0: Int; v1: Int): Int", "extern f(read read v0: List): Int", "extern f(readv0: List): Int", "extern f(read  v0: List): Int", "extern f(Read v0: List): Int", "extern f(take v0: List): Int", "extern f(read): Int", "extern f(read : List): Int",
		"Extern f(): Int", "extern f(): Int =", "def f(): Int", "f(): Int", "func f(): Int", "ret v0", "  ret v0", "| Nil", "  | Nil",
	}, rest)
	checkLines(t, types, nil, spaced("extern f(v0: List, read v1: Tree): Int"), rest)
	checkLines(t, types, nil, spaced("fun f(v0: List, read v1: Tree): Int"), "  v2 = 1\n  ret v2\n")
	checkLines(t, types, []string{"fun f(v0: List, read v1: Tree): Int", "fun f(read v0: List, v1: Tree): Int", "fun a.b(v0: Tree, v1: Int): Int", "fun fun(v0: Int, v1: Int): Int", "fun extern(v0: Int, v1: Int): Int"}, []string{"fun f(v0: List, v1: Tree) Int", "fun F(v0: List, v1: Tree): Int", "Fun f(v0: Int, v1: Int): Int", "fun f(v1: List, v0: Tree): Int", "funf(v0: Int, v1: Int): Int", "fun"}, "  v2 = 1\n  ret v2\nextern g(): Int\n")
	// A function has a node, an extern one none.
	checkLines(t, types+"extern f(): Int\n", nil, []string{"  v0 = 1", "  ret v0"}, "")
	checkLines(t, types+"fun f(v0: Int): Int\n", nil, []string{"extern g(): Int", "fun g(): Int"}, "  ret v0\n")
	text := types + "fun f(v0: Int): Int\n"
	checkParseError(t, text, len(text), api.ErrSyntax)
}

// TestNodeLines has the lines of each operation.
func TestNodeLines(t *testing.T) {
	before := types + others + "fun f(v0: List, v1: Int, read v2: Tree, v3: Tree): List\n"
	checkLines(t, before, []string{"  ret v0"}, slices.Concat(spaced("  ret v0"), []string{"  ret", "  ret v0 v1", "  ret v0, v1", "  ret V0", "  ret v", "  ret 0", "  ret v00", "  ret v01", "  ret v512", "  ret v1000", "  ret v99999999999999999999", "  ret v-1", "  ret v+1", "  ret v0x", "  ret _", "  ret Nil", "  ret x", "  Ret v0", "  return v0", "", "  ", "fun g(): Int", "  | Nil", "  =", "  v0"}), "")
	checkLines(t, before, []string{"  tail f v0 v1 v2 v3", "  tail id v0", "  tail ext v0 v1"}, slices.Concat(spaced("  tail f v0 v1 v2 v3"), []string{"  tail", "  tail F v0", "  tail f.F", "  tail f. v0", "  tail f v0 x", "  tail f _", "  tail f Nil", "  tail f v512", "  tail f 1", "  tail f(v0)", "  tail f v0, v1", "  Tail f v0", "  tail call f v0", "  tail f : v0"}), "")
	checkLines(t, before, []string{"  hole Cons v1 _ : id v0", "  hole Cons v1 _ : ext v0 v1", "  hole Cons v1 _ : f v0 v1 v2 v3"}, slices.Concat(spaced("  hole Cons v1 _ : id v0"), []string{"  hole", "  hole Cons", "  hole Cons _", "  hole Cons v1 _ :", "  hole Cons v1 _ id v0", "  hole Cons v1 v0 : id v0", "  hole Cons : id v0", "  hole Cons _ _ : id v0", "  hole _ Cons v1 : id v0", "  hole _ : id v0", "  hole : id v0", "  hole cons v1 _ : id v0", "  hole Cons v1 _ : Id v0", "  hole Cons v1 _ : id _", "  hole Cons v1 _ : id v0 : id v0", "  hole Cons v1 _ : : id v0", "  hole Cons v512 _ : id v0", "  hole Cons v1 _ : id v512", "  hole Cons 1 _ : id v0", "  hole Cons v1 __ : id v0", "  hole Cons v1 -1 : id v0", "  hole Cons v1 v-1 : id v0", "  hole v1 _ : id v0", "  Hole Cons v1 _ : id v0"}), "")
	after := "  ret v0\n"
	checkLines(t, before, []string{"  drop v0", "  drop v2"}, slices.Concat(spaced("  drop v0"), []string{"  drop", "  drop v0 v1", "  drop 0", "  drop x", "  drop v512", "  drop _", "  drop Nil", "  Drop v0"}), after)
	checkLines(t, before, []string{"  v4 = 0", "  v4 = 5", "  v4 = -1", "  v4 = 10", "  v4 = 9223372036854775807", "  v4 = -9223372036854775808"}, slices.Concat(spaced("  v4 = -15"), []string{"  v4", "  v4 =", "  v4 5", "  v4 == 5", "  v4 = -0", "  v4 = 00", "  v4 = 05", "  v4 = -05", "  v4 = +5", "  v4 = - 5", "  v4 = 5 5", "  v4 = 9223372036854775808", "  v4 = -9223372036854775809", "  v4 = 99999999999999999999", "  v4 = 1e3", "  v4 = 0x1", "  v4 = 1_0", "  v4 = 5.", "  v4 = --5", "  v512 = 5", "  v04 = 5", "  x = 5", "  4 = 5", "  _ = 5", "  v = 5", "  v4 v5 = 5", "  v4, v5 = 5", "  v4: Int = 5", "  let v4 = 5"}), after)
	for _, prim := range strings.Fields("add sub mul div mod less most equal") {
		checkLines(t, before, []string{"  v4 = " + prim + " v1 v1"}, slices.Concat(spaced("  v4 = "+prim+" v1 v1"), []string{"  v4 = " + prim, "  v4 = " + prim + " v1", "  v4 = " + prim + " v1 v1 v1", "  v4 = " + prim + " 1 2", "  v4 = " + prim + " v1 v512", "  v4 = " + prim + " v1, v1", "  v4 = " + prim + " v1 _", "  v4 = x" + prim + " v1 v1", "  v4 = v1 " + prim + " v1", "  " + prim + " v1 v1"}), after)
	}
	checkLines(t, before, []string{"  v4 = Nil", "  v4 = Cons v1 v0", "  v4 = Node v3 v0 v2", "  v4 = False", "  v4 = True", "  v4 = Blue"}, slices.Concat(spaced("  v4 = Cons v1 v0"), []string{"  v4 = Cons v1 1", "  v4 = Cons v1 Nil", "  v4 = Cons v1 _", "  v4 = Cons v512 v0", "  v4 = Cons (v1) v0", "  v4 = Cons v1, v0", "  v4 = cons v1 v0", "  v4 = Cons: v1", "  v4 = make Cons v1 v0", "  v4 = _Cons", "  v4 = Cóns", "  v4 = A.B"}), after)
	checkLines(t, before, []string{"  v4 = copy v0", "  v4 = copy v2"}, slices.Concat(spaced("  v4 = copy v0"), []string{"  v4 = copy", "  v4 = copy v0 v1", "  v4 = copy 1", "  v4 = copy Nil", "  v4 = copy v512", "  v4 = copy _", "  copy v0"}), after)
	checkLines(t, before, []string{"  v4 = call bool", "  v4 = call ext v0 v1", "  v4 = call mod.reads v2 v0", "  v4 = call f v0 v1 v2 v3"}, slices.Concat(spaced("  v4 = call ext v0 v1"), []string{"  v4 = call", "  v4 = call Ext v0 v1", "  v4 = call ext v0 1", "  v4 = call ext v0 v512", "  v4 = call ext(v0)", "  v4 = call mod.reads. v2", "  v4 = ext v0 v1", "  call ext v0 v1", "  v4 = call ext v0 _", "  v4 = tail ext v0 v1", "  v4 = call _ v0"}), after)
	// If a node is due and there is no further line, the offset is the end.
	for _, line := range []string{"  drop v0\n", "  v4 = 5\n", "  v4 = add v1 v1\n", "  v4 = Nil\n", "  v4 = copy v0\n", "  v4 = call bool\n", "  take v0\n", "  read v0\n", "  take v0\n  | Nil\n", "  take v0\n  | Nil\n    drop v3\n", "  take v0\n  | Nil\n    ret v0\n  | Cons v4 v5\n"} {
		checkParseError(t, before+line, len(before+line), api.ErrSyntax)
		checkParseError(t, before+line+"extern g(): Int\n", len(before+line), api.ErrSyntax)
	}
	// The code ends where no node is due any more.
	for _, line := range []string{"  ret v0\n", "  tail id v0\n", "  hole Cons v1 _ : id v0\n"} {
		for _, next := range []string{"  ret v0\n", "  drop v0\n", "    ret v0\n", "  | Nil\n", "| Nil\n", " \n", "\n", "  take v0\n"} {
			checkParseError(t, before+line+next, len(before+line), api.ErrSyntax)
		}
	}
}

// TestMatchLines has the lines of Matches and their branches, with all indentations.
func TestMatchLines(t *testing.T) {
	before := types + others + "fun f(v0: List, v1: Int, read v2: Tree, v3: Tree, v4: Bool): List\n"
	nil1, cons := "  | Nil\n    ret v0\n", "  | Cons v5 v6\n    ret v0\n"
	checkLines(t, before, []string{"  take v0", "  read v0"}, slices.Concat(spaced("  take v0"), spaced("  read v0"), []string{"  take", "  take v0 v1", "  take 0", "  take v512", "  take Nil", "  take _", "  match v0", "  view v0", "  Take v0", "  Read v0"}), nil1+cons)
	checkLines(t, before+"  take v0\n", []string{"  | Nil"}, slices.Concat(spaced("  | Nil"), []string{"  |", "  | ", "  |Nil", "  | nil", "  | _", "  | 1", "  | Nil x", "  | Nil _", "  | Nil 1", "  | Nil v512", "  | Nil v05", "  | Nil, Cons", "  | Nil ->", "  | Nil =", "  || Nil", "  Nil", "  - Nil", "  ret v0", "    ret v0", "fun g(): Int", "  | A.B", "  | Nil | Cons"}), "    ret v0\n"+cons)
	checkLines(t, before+"  take v0\n"+nil1, []string{"  | Cons v5 v6"}, slices.Concat(spaced("  | Cons v5 v6"), []string{"  |", "  | ", "  |Cons v5 v6", "  | cons v5 v6", "  | Cons v5, v6", "  | Cons (v5) v6", "  | Cons v5 v512", "    | Cons v5 v6", "| Cons v5 v6", "  ret v0", "    ret v0"}), "    ret v0\n")
	checkLines(t, before+"  take v0\n  | Nil\n", []string{"    ret v0"}, slices.Concat(spaced("    ret v0"), []string{"  ret v0", "      ret v0", "  | Cons v5 v6", "    | Cons v5 v6"}), cons)
	checkLines(t, before+"  take v0\n  | Nil\n    ret v0\n  | Cons v5 v6\n", []string{"    ret v0"}, slices.Concat(spaced("    ret v0"), []string{"  ret v0", "      ret v0"}), "extern g(): Int\n")
	// Branches of an inner Match, of an outer one, and what follows both.
	inner := before + "  read v4\n  | False\n    take v0\n    | Nil\n      ret v0\n    | Cons v5 v6\n      ret v0\n"
	checkLines(t, inner, []string{"  | True"}, []string{"    | True v9 x", " | True", "   | True", "| True", "      | True", "  ret v0", "    ret v0", "      ret v0", "extern", ""}, "    ret v0\n")
	checkLines(t, inner+"  | True\n    ret v0\n", []string{"extern g(): Int"}, []string{"    | Nil", "      | Nil", "| True", "  ret v0", "data A = B"}, "")
	// Any number of branches is right as far as lines are concerned.
	for _, more := range []string{"    | Cons v7 v8\n      ret v0\n", "    | Nil v5 v5\n      ret v0\n", "    | True\n      ret v0\n"} {
		checkParseError(t, inner+more+"  | True\n    ret v0\n", 0, plainError(inner+more+"  | True\n    ret v0\n"))
	}
	checkParseError(t, inner, 0, api.ErrType)
	checkParseError(t, inner+"  | True\n    ret v0\n  | True\n    ret v0\n", 0, api.ErrType)
	checkParseError(t, inner+"  | False\n    ret v0\n", 0, api.ErrType)
}

// plainError returns the error of a text.
func plainError(text string) api.Errno {
	_, _, e := plainParse(text)
	return e
}

// TestMissing has names and variables that do not exist.
func TestMissing(t *testing.T) {
	head := types + others + "fun f(v0: List, v1: Int, read v2: Tree): List\n"
	code := "  v3 = 5\n  take v0\n  | Nil\n    tail id v0\n  | Cons v4 v5\n    v6 = Cons v4 v5\n    ret v6\n"
	checkParse(t, head+code, plainOf(head+code), 0, api.OK)
	for _, c := range []struct{ before, line, after string }{
		{"", "data A = B C", head + code}, {types, "data A = B | D Int List Lost", others}, {types, "data A = B A | D Lost A", others}, {"", "data A = B X", ""}, {"", "data A = B Int B", ""},
		{types, "extern g(v0: Lost): Int", others}, {types, "extern g(v0: Int, read v1: Lost): Int", others}, {types, "extern g(): Lost", others}, {types, "fun g(v0: Lost): Int", "  v1 = 1\n  ret v1\n"}, {types, "fun g(v0: Int): Lost", "  ret v0\n"}, {types, "fun g(v0: Nil): Int", "  v1 = 1\n  ret v1\n"}, {types, "extern g(): Cons", ""},
		{head, "  v3 = Lost", code[len("  v3 = 5\n"):]}, {head, "  v3 = List", code[len("  v3 = 5\n"):]}, {head, "  v3 = Lost v1 v2 v0", code[len("  v3 = 5\n"):]}, {head, "  v3 = call lost", code[len("  v3 = 5\n"):]}, {head, "  v3 = call reads v2 v0", code[len("  v3 = 5\n"):]}, {head, "  v3 = call mod v0", code[len("  v3 = 5\n"):]}, {head, "  v3 = call add v1 v1", code[len("  v3 = 5\n"):]},
		{head, "  tail lost", ""}, {head, "  tail lost v0", ""}, {head, "  tail ext.f v0", ""}, {head, "  hole Lost v1 _ : id v0", ""}, {head, "  hole Cons v1 _ : lost v0", ""}, {head, "  hole List v1 _ : id v0", ""}, {head + "  take v0\n  | Nil\n    ret v0\n", "  | Lost v4 v5", "    ret v0\n"}, {head + "  take v0\n", "  | Lost", "    ret v0\n  | Cons v4 v5\n    ret v0\n"},
		// Variables that no earlier line has, whether a later one does or not, or one of another function.
		{head, "  v3 = copy v3", code}, {head, "  v3 = copy v4", "  v4 = Nil\n  ret v4\n"}, {head, "  v3 = copy v511", code}, {head, "  take v3", "  | Nil\n    ret v0\n  | Cons v3 v4\n    ret v0\n"}, {head, "  read v7", "  | Nil\n    ret v0\n  | Cons v3 v4\n    ret v0\n"},
		{head + "  v4 = Nil\n", "  v3 = copy v3", "  ret v0\n"}, {head + "  drop v5\n", "  v3 = copy v5", "  ret v0\n"}, {head + "  v9 = 1\n  v5 = add v8 v8\n", "  take v8", "  | Nil\n    ret v0\n  | Cons v3 v4\n    ret v0\n"}, {head + code + "fun g(v0: List): List\n", "  v7 = copy v1", "  ret v0\n"}, {head + code + "fun g(): List\n", "  take v0", "  | Nil\n    v1 = Nil\n    ret v1\n  | Cons v2 v3\n    ret v3\n"},
		{head + "  take v0\n  | Nil\n", "    v3 = copy v5", "    ret v0\n  | Cons v4 v5\n    ret v0\n"},
	} {
		text := c.before + c.line + "\n" + c.after
		checkParseError(t, text, len(c.before), api.ErrNone)
		// Another line that names something in vain, and a function that is not valid, do not count.
		checkParseError(t, text+"extern z(v0: Lost): Lost\nextern z(v0: Lost): Lost\n", len(c.before), api.ErrNone)
		checkParseError(t, text+"extern z(read v0: Int): Int\n", len(c.before), api.ErrNone)
		// A line that cannot stand there does.
		checkParseError(t, text+"extern\n", len(text), api.ErrSyntax)
		checkParseError(t, text+"extern z(): Int", len(text), api.ErrSyntax)
	}
	// Variables of an earlier line count wherever this line is.
	for _, c := range []struct {
		code string
		want api.Errno
	}{
		{"  take v0\n  | Nil\n    v3 = Nil\n    ret v3\n  | Cons v4 v5\n    v6 = copy v3\n    ret v6\n", api.ErrNone}, {"  take v0\n  | Nil\n    v3 = Nil\n    ret v3\n  | Cons v4 v5\n    take v3\n    | Nil\n      ret v5\n    | Cons v6 v7\n      ret v7\n", api.ErrNone},
		{"  v3 = copy v0\n  v4 = copy v3\n  ret v4\n", api.OK}, {"  read v0\n  | Nil\n    ret v0\n  | Cons v3 v4\n    v5 = copy v4\n    ret v5\n", api.OK},
	} {
		want, _, e := plainParse(head + c.code)
		if e != c.want {
			t.Errorf("the plain error of %q is %d", c.code, e)
		}
		checkParse(t, head+c.code, want, 0, c.want)
	}
}

// TestLaterNames names types, constructors and functions before their lines.
func TestLaterNames(t *testing.T) {
	for _, text := range []string{
		"data A = B C | No\ndata C = D A Bool\nfun f(v0: C): A\n  v1 = call g v0\n  v2 = call h v1\n  tail g v2\nfun g(v0: C): A\n  v1 = B v0\n  ret v1\nfun h(v0: A): C\n  v1 = True\n  v2 = D v0 v1\n  ret v2\n",
		"fun a(): Bool\n  v0 = call b\n  v1 = call c v0\n  v2 = call c v0\n  v3 = less v0 v1\n  ret v3\nfun b(): Int\n  v0 = 3\n  ret v0\nextern c(v0: Int): Int\n",
		"data L = N | C Int L\nfun a(): L\n  v0 = call b\n  v1 = copy v0\n  read v1\n  | N\n    ret v0\n  | C v2 v3\n    v4 = copy v3\n    ret v4\nextern b(): L\n",
	} {
		p := plainOf(text)
		checkCheck(t, p, api.OK)
		checkParse(t, text, p, 0, api.OK)
		checkText(t, p, text, api.OK)
	}
}

// TestErrorsOfCheck has texts with right lines and names whose programs are not valid.
func TestErrorsOfCheck(t *testing.T) {
	head := types + others + "fun f(v0: List, v1: Int, read v2: Tree): List\n"
	for _, c := range []struct {
		text string
		want api.Errno
	}{
		{"data Bool = A\n", api.ErrTwice}, {"data A = True\n", api.ErrTwice}, {"data A = B\ndata A = C\n", api.ErrTwice}, {"data A = B | B\n", api.ErrTwice}, {"data A = B\ndata C = B\n", api.ErrTwice}, {"data A = A A\n", api.ErrDeep}, {"data A = B C\ndata C = D A\n", api.ErrDeep},
		{"extern f(): Int\nextern f(): Int\n", api.ErrTwice}, {"extern f(read v0: Int): Int\n", api.ErrMode}, {"extern f(read v0: Bool): Int\n", api.ErrMode},
		{head + "  ret v1\n", api.ErrType}, {head + "  ret v9\n", api.ErrNone}, {head + "  v3 = 5\n  ret v4\n", api.ErrNone}, {head + "  v4 = 5\n  ret v0\n", api.ErrForm}, {head + "  v500 = 5\n  ret v0\n", api.ErrForm}, {head + "  v1 = 5\n  ret v0\n", api.ErrTwice}, {head + "  v3 = 5\n  v3 = 5\n  ret v0\n", api.ErrTwice},
		{head + "  v3 = add v0 v1\n  ret v0\n", api.ErrType}, {head + "  v3 = Cons v0 v1\n  ret v0\n", api.ErrType}, {head + "  v3 = Cons v1\n  ret v0\n", api.ErrType}, {head + "  v3 = Nil v0\n  ret v0\n", api.ErrType}, {head + "  v3 = copy v1\n  ret v0\n", api.ErrType}, {head + "  drop v1\n  ret v0\n", api.ErrType}, {head + "  v3 = call id v1\n  ret v0\n", api.ErrType}, {head + "  v3 = call id\n  ret v0\n", api.ErrType},
		{head + "  tail bool\n", api.ErrType}, {head + "  tail id v1\n", api.ErrType}, {head + "  hole Cons _ v0 : id v0\n", api.ErrType}, {head + "  hole Nil _ : id v0\n", api.ErrType}, {head + "  hole Cons v1 _ v0 : id v0\n", api.ErrType}, {head + "  hole Cons v9 _ : id v0\n", api.ErrNone}, {head + "  hole Cons v1 _ : id v9\n", api.ErrNone},
		{head + "  take v1\n  | Nil\n    ret v0\n", api.ErrType}, {head + "  take v0\n  | Nil\n    ret v0\n", api.ErrType}, {head + "  take v0\n  | Nil v3\n    ret v0\n  | Cons v4 v5\n    ret v0\n", api.ErrType}, {head + "  take v0\n  | Nil\n    ret v0\n  | Cons v4\n    ret v0\n", api.ErrType}, {head + "  take v0\n  | Nil\n    ret v0\n  | Cons v3 v3\n    ret v0\n", api.ErrTwice}, {head + "  take v0\n  | Nil\n    ret v0\n  | Cons v3 v0\n    ret v0\n", api.ErrTwice},
		{head + "  v3 = True\n  take v3\n  | False\n    ret v0\n  | True\n    ret v0\n", api.ErrType},
		// Names of constructors that are not the ones of their place.
		{head + "  take v0\n  | Cons v3 v4\n    ret v0\n  | Nil\n    ret v0\n", api.ErrType}, {head + "  take v0\n  | Empty\n    ret v0\n  | Cons v3 v4\n    ret v0\n", api.ErrType}, {head + "  take v0\n  | Leaf\n    ret v0\n  | Cons v3 v4\n    ret v4\n", api.ErrType}, {head + "  take v0\n  | False\n    ret v0\n  | Cons v3 v4\n    ret v4\n", api.ErrType}, {head + "  take v0\n  | None\n    ret v0\n  | Cons v3 v4\n    ret v4\n", api.ErrType},
		{"data A = B | C\nfun f(v0: Bool): Bool\n  read v0\n  | B\n    ret v0\n  | C\n    ret v0\n", api.ErrType}, {"fun f(v0: Bool): Bool\n  read v0\n  | True\n    ret v0\n  | False\n    ret v0\n", api.ErrType}, {"fun f(v0: Bool): Bool\n  read v0\n  | False\n    ret v0\n  | False\n    ret v0\n", api.ErrType},
		{"data L = N | C Int L\ndata M = O | D Int L\nfun f(v0: L): L\n  v1 = 1\n  hole D v1 _ : f v0\n", api.ErrType}, {"data L = N | C Int L\ndata M = O | D Int L\nfun f(v0: L): L\n  take v0\n  | N\n    v1 = N\n    ret v1\n  | D v2 v3\n    ret v3\n", api.ErrType},
	} {
		checkParseError(t, c.text, 0, c.want)
	}
	// The error of Check precedes a constructor that is not the one of its place.
	checkParseError(t, head+"  take v0\n  | Empty\n    ret v9\n  | Cons v3 v4\n    ret v0\n", 0, api.ErrNone)
	checkParseError(t, "data L = N | C Int L\ndata M = O | D Int L\nfun f(v0: L): L\n  v1 = 1\n  hole D v1 _ : f v0\nextern f(): Int\n", 0, api.ErrTwice)
	// Of constructors with the same name the first one counts; the table is wrong in any case.
	checkParseError(t, "data A = B | C\ndata D = B Int\nfun f(): A\n  v0 = B\n  ret v0\n", 0, api.ErrTwice)
	// Of functions with the same name the first one counts.
	checkParseError(t, "extern f(): Int\nextern f(): Bool\nfun g(): Bool\n  tail f\n", 0, api.ErrTwice)
	checkParseError(t, "fun g(): Bool\n  tail f\nextern f(): Int\nextern f(): Bool\n", 0, api.ErrType)
	checkParseError(t, "fun g(): Int\n  tail f\nextern f(): Int\nextern f(): Bool\n", 0, api.ErrTwice)
}

// TestLastType has variables that several lines bind, whose types are those of the last of these lines.
func TestLastType(t *testing.T) {
	for _, c := range []struct {
		text string
		want api.Errno
	}{
		{"fun f(): Int\n  v0 = 5\n  v0 = True\n  ret v0\n", api.ErrType}, {"fun f(): Bool\n  v0 = 5\n  v0 = True\n  ret v0\n", api.ErrType}, {"fun f(): Int\n  v0 = True\n  v0 = 5\n  ret v0\n", api.ErrType}, {"fun f(): Int\n  v0 = 4\n  v0 = 5\n  ret v0\n", api.ErrTwice},
		{"fun f(v0: Int): Int\n  v0 = True\n  ret v0\n", api.ErrTwice}, {"fun g(v0: Int): Int\n  tail f v0\nfun f(v0: Int): Int\n  v0 = True\n  ret v0\n", api.ErrType}, {"fun g(v0: Bool): Int\n  tail f v0\nfun f(v0: Int): Int\n  v0 = True\n  ret v0\n", api.ErrTwice},
		// The mode is that of the last line, too: a borrowed variable that a Make binds.
		{"data L = N | C Int L\nfun f(v0: L): L\n  v1 = N\n  read v0\n  | N\n    ret v0\n  | C v2 v1\n    ret v0\n", api.ErrMode}, {"data L = N | C Int L\nfun f(v0: L): L\n  v1 = N\n  take v0\n  | N\n    ret v1\n  | C v2 v1\n    ret v1\n", api.ErrTwice},
		{"data L = N | C Int L\nfun f(v0: L): L\n  read v0\n  | N\n    v1 = N\n    ret v1\n  | C v2 v3\n    v4 = copy v3\n    v3 = N\n    ret v4\n", api.ErrMode},
		{"data L = N | C Int L\nfun f(read v0: L): L\n  v1 = 1\n  v0 = N\n  ret v0\n", api.ErrTwice},
	} {
		checkParseError(t, c.text, 0, c.want)
	}
}

// TestShortTexts has all texts of a few lines behind some beginnings.
func TestShortTexts(t *testing.T) {
	lines := []string{"data L = N | C Int L\n", "fun f(v0: L): L\n", "extern g(): L\n", "  ret v0\n", "    ret v0\n", "  v1 = N\n", "    v2 = copy v1\n", "  take v0\n", "    read v0\n", "  | N\n", "    | N\n", "  | C v1 v2\n", "    | C v3 v4\n", "  tail f v0\n", "      ret v0\n", "    hole C v1 _ : g\n"}
	count := map[api.Errno]int{}
	var extend func(text string, left int)
	extend = func(text string, left int) {
		want, at, e := plainParse(text)
		checkParse(t, text, want, at, e)
		count[e]++
		if left > 0 {
			for _, line := range lines {
				extend(text+line, left-1)
			}
		}
	}
	extend("", 3)
	for _, before := range []string{lines[0] + lines[1], lines[0] + lines[1] + "  take v0\n  | N\n    ret v0\n", lines[0] + lines[1] + "  take v0\n  | N\n    ret v0\n  | C v1 v2\n", lines[0] + "fun f(v0: L): L\n  read v0\n  | N\n    take v0\n    | N\n      ret v0\n"} {
		extend(before, 3)
	}
	for _, e := range []api.Errno{api.OK, api.ErrSyntax, api.ErrNone, api.ErrType, api.ErrTwice} {
		if count[e] < 5 {
			t.Errorf("only %d texts have the error %d", count[e], e)
		}
	}
}

// disturbedText returns a text that is changed at one place.
func (r drawn) disturbedText(text string) string {
	lines := strings.SplitAfter(text, "\n")
	lines = lines[:len(lines)-1]
	i, j := r.Intn(len(lines)), r.Intn(len(lines))
	words := []string{"v0", "v1", "v2", "v3", "v7", "v20", "v511", "v512", "Nil", "Cons", "Leaf", "Node", "Empty", "Full", "True", "List", "Mirror", "Int", "Lost", "f", "g", "main.f", "lost", "copy", "call", "tail", "take", "read", "ret", "drop", "hole", "_", ":", "|", "=", "5", "-1", "add", "less", ""}
	switch r.Intn(10) {
	case 6:
		if head, params, ok := strings.Cut(lines[i], "v0: "); ok {
			lines[i] = strings.TrimSuffix(head+"read ", "read read ") + "v0: " + params
		}
	case 0:
		lines = slices.Delete(lines, i, i+1)
	case 1:
		lines = slices.Insert(lines, i, lines[j])
	case 2:
		lines[i], lines[j] = lines[j], lines[i]
	case 3:
		lines[i] = strings.TrimPrefix(lines[i], strings.Repeat(" ", 1+r.Intn(2)))
	case 4:
		lines[i] = strings.Repeat(" ", 1+r.Intn(2)) + lines[i]
	case 5:
		at := r.Intn(len(lines[i]))
		lines[i] = lines[i][:at] + string("vV019 ()|=_:,.\n\xffaN-"[r.Intn(19)]) + lines[i][at+r.Intn(2):]
	default:
		body := strings.TrimLeft(lines[i], " ")
		list := strings.Split(strings.TrimSuffix(body, "\n"), " ")
		list[r.Intn(len(list))] = words[r.Intn(len(words))]
		lines[i] = lines[i][:len(lines[i])-len(body)] + strings.Join(list, " ") + "\n"
	}
	return strings.Join(lines, "")
}

// TestDisturbedTexts compares texts of drawn programs that are changed at up to three places with the plain parser.
func TestDisturbedTexts(t *testing.T) {
	r := newDrawn(3)
	table := read(t, "")
	count := map[api.Errno]int{}
	for range 3000 {
		text := plainText(r.program(table))
		for range 8 {
			changed := text
			for range 1 + r.Intn(3) {
				if changed != "" && strings.HasSuffix(changed, "\n") {
					changed = r.disturbedText(changed)
				}
			}
			want, at, e := plainParse(changed)
			checkParse(t, changed, want, at, e)
			count[e]++
			if e == api.OK {
				checkText(t, want, changed, api.OK)
			}
		}
	}
	for _, e := range []api.Errno{api.OK, api.ErrSyntax, api.ErrNone, api.ErrForm, api.ErrTwice, api.ErrType, api.ErrMode} {
		if count[e] < 20 {
			t.Errorf("only %d texts have the error %d", count[e], e)
		}
	}
}

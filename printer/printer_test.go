package printer

import (
	"math"
	"reflect"
	"slices"
	"strconv"
	"strings"
	"testing"

	"cellarer/api"
	"cellarer/parser"
	"cellarer/syntax"
)

// lines returns a text of which each line is given behind a |.
func lines(text string) string {
	var out []string
	for line := range strings.SplitSeq(text, "\n") {
		if _, line, ok := strings.Cut(line, "|"); ok {
			out = append(out, line)
		}
	}
	return strings.Join(out, "\n")
}

func TestExpressionsOfOneLine(t *testing.T) {
	for src, want := range map[string]string{
		"x": "x", "(X)": "X", "007": "7", "-0": "0", "(-1)": "-1", "9223372036854775807": "9223372036854775807", "-9223372036854775808": "-9223372036854775808",
		"f(x)(1)Y (Z)": "f x 1 Y Z", "f (g x) (-1) - (a - b) * 2": "f (g x) (-1) - (a - b) * 2", "f (-1)": "f (-1)", "f(C 1)(C)(copy x)(1+2)": "f (C 1) C (copy x) (1 + 2)",
		"C x(f x)(-2)": "C x (f x) (-2)", "copy(x)": "copy x", "copy -1": "copy (-1)", "copy(C)": "copy C", "copy(C 1)": "copy (C 1)", "copy(copy x)": "copy (copy x)", "copy(1+2)": "copy (1 + 2)",
		"(a + b) + c": "a + b + c", "a + (b + c)": "a + (b + c)", "(a * b) * c": "a * b * c", "a*(b*c)": "a * (b * c)", "a*(b+c)": "a * (b + c)", "(a*b)+(c*d)": "a * b + c * d", "(a+b)*c": "(a + b) * c",
		"a-1": "a - 1", "a - -1": "a - -1", "-1-(-1)": "-1 - -1", "a/(-1)%b": "a / -1 % b", "(-1)*(-2)": "-1 * -2", "a<(-1)": "a < -1", "-1==a": "-1 == a",
		"(a<b)<c": "(a < b) < c", "a<=(b<=c)": "a <= (b <= c)", "(a==b)==(c==d)": "(a == b) == (c == d)", "a+b<c*d": "a + b < c * d", "(a<b)+1": "(a < b) + 1", "1*(a<b)": "1 * (a < b)",
	} {
		checkSource(t, src, want)
	}
}

func TestExpressionsOfLines(t *testing.T) {
	checkSource(t, "let x = 1 in let y = (let z = 2 in z) in x", lines(`
		|let x = 1 in
		|let y = let z = 2 in
		|  z in
		|x`))
	checkSource(t, "let x = let y = let z = 1 in 2 in 3 in 4", lines(`
		|let x = let y = let z = 1 in
		|    2 in
		|  3 in
		|4`))
	checkSource(t, "if a then b else c", lines(`
		|if a then
		|  b
		|else
		|  c`))
	checkSource(t, "if (if a then b else c) then let x = 1 in x else if d then 1 else 2", lines(`
		|if if a then
		|  b
		|else
		|  c then
		|  let x = 1 in
		|  x
		|else
		|  if d then
		|    1
		|  else
		|    2`))
	checkSource(t, "match(x),f y with|A(B _)(-1)c,-1->1|(C),(_)->let z=1 in z end", lines(`
		|match x, f y with
		|| A (B _) (-1) c, -1 ->
		|  1
		|| C, _ ->
		|  let z = 1 in
		|  z
		|end`))
	checkSource(t, "view match x with|y->view y with|A->0|B->1 end end,let x=1 in x with|_,_->match x with|1->2 end end", lines(`
		|view match x with
		|| y ->
		|  view y with
		|  | A ->
		|    0
		|  | B ->
		|    1
		|  end
		|end, let x = 1 in
		|x with
		|| _, _ ->
		|  match x with
		|  | 1 ->
		|    2
		|  end
		|end`))
	checkSource(t, "f(if a then let x=1 in x else g(let y=2 in y))(let z=3 in z)+(match x with|_->1 end)", lines(`
		|f (if a then
		|    let x = 1 in
		|    x
		|  else
		|    g (let y = 2 in
		|      y)) (let z = 3 in
		|  z) + (match x with
		|  | _ ->
		|    1
		|  end)`))
}

func TestModules(t *testing.T) {
	checkSource(t, "module m", "module m\n")
	checkSource(t, "module m data B = X|Y Int fun f(x:B):Int=match x with|X->0|Y n->n+1 end", lines(`
		|module m
		|
		|data B = X | Y Int
		|
		|fun f (x : B) : Int =
		|  match x with
		|  | X ->
		|    0
		|  | Y n ->
		|    n + 1
		|  end
		|`))
	checkSource(t, "module m_1 import a(x)import b(y,z,y)", "module m_1\nimport a (x)\nimport b (y, z, y)\n")
	checkSource(t, "module m import a(x)fun f:Int=-1 data D=C|C D Int D fun g(read x:D)(y:E)(read z:Int):D=let x=let y=1 in 2 in(3)data E=E", lines(`
		|module m
		|import a (x)
		|
		|fun f : Int =
		|  -1
		|
		|data D = C | C D Int D
		|
		|fun g (read x : D) (y : E) (read z : Int) : D =
		|  let x = let y = 1 in
		|    2 in
		|  3
		|
		|data E = E
		|`))
}

func TestPatterns(t *testing.T) {
	for src, want := range map[string]string{
		"(_)": "_", "(x)": "x", "X": "X", "007": "7", "(-1)": "-1", "-9223372036854775808": "-9223372036854775808", "((X (_)))": "X _",
		"X(Y)(Y 1)1(-1)_ x": "X Y (Y 1) 1 (-1) _ x", "X(X(X(X x)))": "X (X (X (X x)))",
	} {
		checkSource(t, "match a with|"+src+"->1 end", "match a with\n| "+want+" ->\n  1\nend")
		checkSource(t, "view a,b,c with|"+src+",_,"+src+"->1|x,"+src+",y->1 end", "view a, b, c with\n| "+want+", _, "+want+" ->\n  1\n| x, "+want+", y ->\n  1\nend")
	}
}

// levelled has expressions of one line with their levels.
var levelled = []struct {
	text  string
	level int
}{
	{"a < b", 1}, {"a <= b", 1}, {"a == b", 1}, {"a + b", 2}, {"a - b", 2}, {"a * b", 3}, {"a / b", 3}, {"a % b", 3},
	{"f x", 4}, {"copy x", 4}, {"C x", 4}, {"-1", 4}, {"x", 5}, {"C", 5}, {"0", 5}, {"1", 5},
}

// TestLevels has each place of an expression with expressions of each level.
func TestLevels(t *testing.T) {
	for _, x := range levelled {
		at := func(least int) string {
			if x.level < least {
				return "(" + x.text + ")"
			}
			return x.text
		}
		checkSource(t, "f ("+x.text+") ("+x.text+")", "f "+at(5)+" "+at(5))
		checkSource(t, "C ("+x.text+") ("+x.text+")", "C "+at(5)+" "+at(5))
		checkSource(t, "copy ("+x.text+")", "copy "+at(5))
		for op, text := range []string{"+", "-", "*", "/", "%", "<", "<=", "=="} {
			level := []int{2, 2, 3, 3, 3, 1, 1, 1}[op]
			checkSource(t, "("+x.text+")"+text+"("+x.text+")", at(max(level, 2))+" "+text+" "+at(level+1))
		}
		checkSource(t, "let x=("+x.text+")in("+x.text+")", "let x = "+x.text+" in\n"+x.text)
		checkSource(t, "if("+x.text+")then("+x.text+")else("+x.text+")", "if "+x.text+" then\n  "+x.text+"\nelse\n  "+x.text)
		checkSource(t, "match("+x.text+"),("+x.text+")with|_,_->("+x.text+")end", "match "+x.text+", "+x.text+" with\n| _, _ ->\n  "+x.text+"\nend")
		checkSource(t, "module m fun f:T=("+x.text+")", "module m\n\nfun f : T =\n  "+x.text+"\n")
	}
}

// TestKeywords has each place of an expression with expressions that begin with keywords.
func TestKeywords(t *testing.T) {
	for _, src := range []string{"let x = a in b", "if a then b else c", "match a with | _ -> b end", "view a with | _ -> b end"} {
		plain, _ := Print(tree(src))
		inner := strings.ReplaceAll(plain, "\n", "\n  ")
		enclosed := "(" + inner + ")"
		for _, before := range []string{"f ", "C ", "copy ", "1 + ", "1 - ", "1 * ", "1 / ", "1 % ", "1 < ", "1 <= ", "1 == "} {
			checkSource(t, before+"("+src+")", before+enclosed)
			if strings.HasPrefix(before, "1") {
				checkSource(t, "("+src+")"+before[1:]+"1", enclosed+before[1:]+"1")
			}
		}
		checkSource(t, "let x = "+src+" in "+src, "let x = "+inner+" in\n"+plain)
		checkSource(t, "if "+src+" then "+src+" else "+src, "if "+plain+" then\n  "+inner+"\nelse\n  "+inner)
		checkSource(t, "match "+src+", "+src+" with | _, _ -> "+src+" end", "match "+plain+", "+plain+" with\n| _, _ ->\n  "+inner+"\nend")
		checkSource(t, "module m fun f : T = "+src, "module m\n\nfun f : T =\n  "+inner+"\n")
	}
}

func TestErrors(t *testing.T) {
	// The errors of the tree precede that of its root.
	checkPrint(t, api.Tree{}, "", api.ErrForm)
	checkPrint(t, api.Tree{Leaves: make([]api.Leaf, api.MaxNodes+1)}, "", api.ErrMany)
	checkPrint(t, leaf(syntax.Apply, "f", 0), "", api.ErrForm)
	checkPrint(t, leaf(syntax.PWild, "x", 0), "", api.ErrForm)
	checkPrint(t, name("let"), "", api.ErrForm)
	checkPrint(t, leaf(syntax.Binary, "", api.Prims, num(1), num(2)), "", api.ErrForm)
	checkPrint(t, leaf(syntax.Binary, "", -1, num(1), num(2)), "", api.ErrForm)
	checkPrint(t, api.Tree{Leaves: []api.Leaf{{Kind: syntax.Copy, Kids: []int{0}}}}, "", api.ErrForm)
	for _, kind := range []int{-1, 0, syntax.Kinds, math.MaxInt, math.MinInt} {
		checkPrint(t, leaf(kind, "", 0), "", api.ErrForm)
	}
	outside := name("x")
	for _, root := range []int{-1, 1, math.MaxInt, math.MinInt} {
		outside.Root = root
		checkPrint(t, outside, "", api.ErrForm)
	}
	deep, deepPattern := name("x"), leaf(syntax.PWild, "", 0)
	for range api.MaxDepth {
		deep, deepPattern = leaf(syntax.Copy, "", 0, deep), leaf(syntax.PCon, "C", 0, deepPattern)
	}
	checkPrint(t, deep, strings.Repeat("copy (", api.MaxDepth-1)+"copy x"+strings.Repeat(")", api.MaxDepth-1), api.OK)
	checkPrint(t, deepPattern, "", api.ErrArg)
	checkPrint(t, leaf(syntax.Copy, "", 0, deep), "", api.ErrDeep)
	checkPrint(t, leaf(syntax.PCon, "C", 0, deepPattern), "", api.ErrDeep)
}

func TestRoots(t *testing.T) {
	kind := leaf(syntax.Type, "T", 0)
	con := leaf(syntax.Con, "C", 0)
	clause := leaf(syntax.Clause, "", 0, leaf(syntax.PWild, "", 0), num(1))
	for _, root := range []api.Tree{
		leaf(syntax.Import, "m", 0, name("x")), leaf(syntax.Data, "D", 0, con), con, leaf(syntax.Fun, "f", 0, kind, num(1)), leaf(syntax.Param, "x", 1, kind), kind, clause,
		leaf(syntax.PWild, "", 0), leaf(syntax.PName, "x", 0), leaf(syntax.PNum, "", 1), leaf(syntax.PCon, "C", 0),
	} {
		checkPrint(t, root, "", api.ErrArg)
	}
	for _, root := range []struct {
		tree api.Tree
		want string
	}{
		{leaf(syntax.Module, "m", 0), "module m\n"}, {name("x"), "x"}, {num(-1), "-1"}, {leaf(syntax.Apply, "f", 0, num(1)), "f 1"}, {leaf(syntax.Build, "C", 0), "C"}, {leaf(syntax.Binary, "", api.Most, num(1), num(2)), "1 <= 2"},
		{leaf(syntax.Let, "x", 0, num(1), num(2)), "let x = 1 in\n2"}, {leaf(syntax.If, "", 0, num(1), num(2), num(3)), "if 1 then\n  2\nelse\n  3"}, {leaf(syntax.Match, "", 1, num(1), clause), "match 1 with\n| _ ->\n  1\nend"},
		{leaf(syntax.View, "", 1, num(1), clause), "view 1 with\n| _ ->\n  1\nend"}, {leaf(syntax.Copy, "", 0, name("x")), "copy x"},
	} {
		checkPrint(t, root.tree, root.want, api.OK)
		// The root need not be the leaf 0.
		moved := api.Tree{Leaves: slices.Clone(root.tree.Leaves), Root: len(root.tree.Leaves) - 1}
		slices.Reverse(moved.Leaves)
		for i, l := range moved.Leaves {
			moved.Leaves[i].Kids = nil
			for _, kid := range l.Kids {
				moved.Leaves[i].Kids = append(moved.Leaves[i].Kids, moved.Root-kid)
			}
		}
		checkPrint(t, moved, root.want, api.OK)
	}
}

// TestLongest has texts with exactly MaxSource bytes, and with one more.
func TestLongest(t *testing.T) {
	const each = api.MaxName + 1
	full := name(strings.Repeat("n", api.MaxName))
	for _, c := range []struct {
		before, after string
		wrap          func(kids []api.Tree) api.Tree
	}{
		{"C", "", func(kids []api.Tree) api.Tree { return leaf(syntax.Build, "C", 0, kids...) }},
		{"let x = f", " in\n1", func(kids []api.Tree) api.Tree {
			return leaf(syntax.Let, "x", 0, leaf(syntax.Apply, "f", 0, kids...), num(1))
		}},
		{"module m\n\nfun f : T =\n  C", "\n", func(kids []api.Tree) api.Tree {
			return leaf(syntax.Module, "m", 0, leaf(syntax.Fun, "f", 0, leaf(syntax.Type, "T", 0), leaf(syntax.Build, "C", 0, kids...)))
		}},
	} {
		room := api.MaxSource - len(c.before) - len(c.after)
		kids := slices.Repeat([]api.Tree{full}, room/each)
		text := strings.Repeat(" "+full.Leaves[0].Text, room/each)
		last := strings.Repeat("x", room%each-1)
		exact := c.wrap(append(slices.Clone(kids), name(last)))
		checkPrint(t, exact, c.before+text+" "+last+c.after, api.OK)
		if got, e := Print(exact); len(got) != api.MaxSource || e != api.OK {
			t.Errorf("the text has %d bytes", len(got))
		}
		checkPrint(t, c.wrap(append(slices.Clone(kids), name(last+"x"))), "", api.ErrLong)
		checkPrint(t, c.wrap(append(slices.Clone(kids), full, full)), "", api.ErrLong)
	}
}

// block returns the lines of an expression or a pattern at least at a level. Its lines other than the first one are indented relatively to the indentation.
func block(of api.Tree, leaf, least int) []string {
	l := of.Leaves[leaf]
	kid := func(i, least int) []string { return block(of, l.Kids[i], least) }
	var out []string
	level := 5
	switch l.Kind {
	case syntax.Let:
		level = 0
		out = append(beside([]string{"let " + l.Text + " = "}, shifted(kid(0, 0), 1), []string{" in"}), kid(1, 0)...)
	case syntax.If:
		level = 0
		out = slices.Concat(beside([]string{"if "}, kid(0, 0), []string{" then"}), shifted(kid(1, 0), 0), []string{"else"}, shifted(kid(2, 0), 0))
	case syntax.Match, syntax.View:
		level = 0
		out = []string{map[int]string{syntax.Match: "match ", syntax.View: "view "}[l.Kind]}
		for i := range l.Kids[:l.Num] {
			out = beside(out, []string{[]string{"", ", "}[min(i, 1)]}, kid(i, 0))
		}
		out = beside(out, []string{" with"})
		for _, clause := range l.Kids[l.Num:] {
			kids, line := of.Leaves[clause].Kids, "| "
			for i, pattern := range kids[:l.Num] {
				line += []string{"", ", "}[min(i, 1)] + block(of, pattern, 0)[0]
			}
			out = slices.Concat(out, []string{line + " ->"}, shifted(block(of, kids[l.Num], 0), 0))
		}
		out = append(out, "end")
	case syntax.Binary:
		level = []int{2, 2, 3, 3, 3, 1, 1, 1}[l.Num]
		out = beside(kid(0, max(level, 2)), []string{" " + strings.Fields("+ - * / % < <= ==")[l.Num] + " "}, kid(1, level+1))
	case syntax.Num, syntax.PNum:
		if l.Num < 0 {
			level = 4
		}
		out = []string{strconv.FormatInt(l.Num, 10)}
	default:
		out = []string{l.Text + map[int]string{syntax.Copy: "copy", syntax.PWild: "_"}[l.Kind]}
		for i := range l.Kids {
			level = 4
			out = beside(out, []string{" "}, kid(i, 5))
		}
	}
	if level < least {
		return beside([]string{"("}, shifted(out, 1), []string{")"})
	}
	return out
}

// beside joins blocks: each begins where the one before it ends.
func beside(blocks ...[]string) []string {
	out := slices.Clone(blocks[0])
	for _, b := range blocks[1:] {
		out[len(out)-1] += b[0]
		out = append(out, b[1:]...)
	}
	return out
}

// shifted returns a block whose lines from an index on are indented further.
func shifted(b []string, from int) []string {
	out := slices.Clone(b)
	for i := range out {
		if i >= from {
			out[i] = "  " + out[i]
		}
	}
	return out
}

// withoutPair returns a text without a pair of parentheses, of which the first one is at an offset.
func withoutPair(text string, open int) string {
	depth := 0
	for i := open; ; i++ {
		switch text[i] {
		case '(':
			depth++
		case ')':
			depth--
		}
		if depth == 0 {
			return text[:open] + " " + text[open+1:i] + " " + text[i+1:]
		}
	}
}

// TestDrawnExpressions compares with texts that are made from blocks of lines, and looks at parentheses that are left out.
func TestDrawnExpressions(t *testing.T) {
	d := newDrawn(1)
	pairs := 0
	for i := range 4000 {
		of := d.expr(5)
		text, e := Print(of)
		if want := strings.Join(block(of, 0, 0), "\n"); text != want || e != api.OK {
			t.Fatalf("Print(%s) is\n%s\n%d, want\n%s", brief(of), text, e, want)
		}
		checkBack(t, d, of, text, parser.Expr)
		for at := range text {
			// Only copy reads a number with a sign as well without them.
			if text[at] != '(' || i > 500 || strings.HasPrefix(text[at:], "(-") && strings.HasSuffix(text[:at], "copy ") {
				continue
			}
			pairs++
			if other, _, e := parser.Expr(withoutPair(text, at)); e == api.OK && syntax.Same(other, of) {
				t.Fatalf("%s has the same tree without the parentheses at %d", text, at)
			}
		}
	}
	if pairs < 1000 {
		t.Errorf("there are only %d pairs of parentheses", pairs)
	}
}

func TestDrawnModules(t *testing.T) {
	d := newDrawn(2)
	for range 2000 {
		of := d.module()
		text, e := Print(of)
		if e != api.OK {
			t.Fatalf("Print(%s) has the error %d", brief(of), e)
		}
		checkBack(t, d, of, text, parser.Parse)
	}
}

// checkBack checks that a text is read as a tree that is the same, and that such trees have the same text.
func checkBack(t *testing.T, d drawn, of api.Tree, text string, read func(string) (api.Tree, int, api.Errno)) {
	t.Helper()
	back, at, e := read(text)
	if e != api.OK || at != 0 || !syntax.Same(back, of) {
		t.Fatalf("%s is read as %s, %d, %d, want %s", text, brief(back), at, e, brief(of))
	}
	checkPrint(t, back, text, api.OK)
	mixed := d.mixed(of)
	before := api.Tree{Leaves: slices.Clone(mixed.Leaves), Root: mixed.Root}
	for i, l := range before.Leaves {
		before.Leaves[i].Kids = slices.Clone(l.Kids)
	}
	checkPrint(t, mixed, text, api.OK)
	if !reflect.DeepEqual(mixed, before) {
		t.Fatalf("Print changes %s to %s", brief(before), brief(mixed))
	}
}

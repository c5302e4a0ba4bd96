package parser

import (
	"fmt"
	"math"
	"slices"
	"strings"
	"testing"

	"cellarer/api"
)

func TestModules(t *testing.T) {
	for src, want := range map[string]string{
		"module m": "(module m)",
		" -- of lists\nmodule lists_1 -- the end":  "(module lists_1)",
		"module m import a (x)":                    "(module m (import a (name x)))",
		"module m import a(x,y , z)import m(x)":    "(module m (import a (name x) (name y) (name z)) (import m (name x)))",
		"module m data D = C":                      "(module m (data D (con C)))",
		"module m data D=C|D E Int|D":              "(module m (data D (con C) (con D (type E) (type Int)) (con D)))",
		"module m data D = C D data C = C":         "(module m (data D (con C (type D))) (data C (con C)))",
		"module m data L = N | C A B C D E F G H":  "(module m (data L (con N) (con C (type A) (type B) (type C) (type D) (type E) (type F) (type G) (type H))))",
		"module m fun f:Int=1":                     "(module m (fun f (type Int) (num 1)))",
		"module m fun f : Int = -1":                "(module m (fun f (type Int) (num -1)))",
		"module m fun f (x : A) : B = x":           "(module m (fun f (param x 0 (type A)) (type B) (name x)))",
		"module m fun f(read x:A):B=f x":           "(module m (fun f (param x 1 (type A)) (type B) (apply f (name x))))",
		"module m fun f(x:A)(read x:A)(y:Int):B=x": "(module m (fun f (param x 0 (type A)) (param x 1 (type A)) (param y 0 (type Int)) (type B) (name x)))",
		"module m fun f : A = B fun g : A = B":     "(module m (fun f (type A) (build B)) (fun g (type A) (build B)))",
		"module m fun f:A=f x data D=C fun g:T=1":  "(module m (fun f (type A) (apply f (name x))) (data D (con C)) (fun g (type T) (num 1)))",
		"module m import a (x) fun f:A=1 data D=C": "(module m (import a (name x)) (fun f (type A) (num 1)) (data D (con C)))",
	} {
		checkParse(t, src, want)
	}
}

func TestExpressions(t *testing.T) {
	for src, want := range map[string]string{
		"f x (Cons 1 Nil) + 2":               "(binary 0 (apply f (name x) (build Cons (num 1) (build Nil))) (num 2))",
		"x":                                  "(name x)",
		"X":                                  "(build X)",
		"0":                                  "(num 0)",
		"-0":                                 "(num 0)",
		"007":                                "(num 7)",
		"-0042":                              "(num -42)",
		"9223372036854775807":                fmt.Sprintf("(num %d)", math.MaxInt64),
		"-9223372036854775808":               fmt.Sprintf("(num %d)", math.MinInt64),
		"f x":                                "(apply f (name x))",
		"f x y 1 X":                          "(apply f (name x) (name y) (num 1) (build X))",
		"f f":                                "(apply f (name f))",
		"X x 1 X":                            "(build X (name x) (num 1) (build X))",
		"X X X":                              "(build X (build X) (build X))",
		"X (X X) X":                          "(build X (build X (build X)) (build X))",
		"f (g x) (g x)":                      "(apply f (apply g (name x)) (apply g (name x)))",
		"copy x":                             "(copy (name x))",
		"copy X":                             "(copy (build X))",
		"copy 1":                             "(copy (num 1))",
		"copy (copy (X 1))":                  "(copy (copy (build X (num 1))))",
		"copy (f x) + copy x":                "(binary 0 (copy (apply f (name x))) (copy (name x)))",
		"f (copy x)":                         "(apply f (copy (name x)))",
		"let x = f 1 in x":                   "(let x (apply f (num 1)) (name x))",
		"let x=let y=1 in 2 in let z=y in z": "(let x (let y (num 1) (num 2)) (let z (name y) (name z)))",
		"let x = 1 in x + x":                 "(let x (num 1) (binary 0 (name x) (name x)))",
		"if a then b else c":                 "(if (name a) (name b) (name c))",
		"if if a then b else c then if d then e else f else if g then h else i": "(if (if (name a) (name b) (name c)) (if (name d) (name e) (name f)) (if (name g) (name h) (name i)))",
		"if a<b then 1 else 2+3": "(if (binary 5 (name a) (name b)) (num 1) (binary 0 (num 2) (num 3)))",
		"(if a then b else c)+1": "(binary 0 (if (name a) (name b) (name c)) (num 1))",
		"f(let x = 1 in x)2":     "(apply f (let x (num 1) (name x)) (num 2))",
	} {
		checkExpr(t, src, want)
	}
}

func TestMatches(t *testing.T) {
	for _, word := range []string{"match", "view"} {
		for src, want := range map[string]string{
			"# x with | _ -> 1 end":                                                  "(# 1 (name x) (clause (pwild) (num 1)))",
			"# f x with|y->y|_->0 end":                                               "(# 1 (apply f (name x)) (clause (pname y) (name y)) (clause (pwild) (num 0)))",
			"# x,y+1 with | A,_ -> B end":                                            "(# 2 (name x) (binary 0 (name y) (num 1)) (clause (pcon A) (pwild) (build B)))",
			"# a, b, c with | 1, -1, x -> 2 | _, _, _ -> -2 end":                     "(# 3 (name a) (name b) (name c) (clause (pnum 1) (pnum -1) (pname x) (num 2)) (clause (pwild) (pwild) (pwild) (num -2)))",
			"# # x with | A -> 1 end with | B -> # y with | C -> 2 | D -> 3 end end": "(# 1 (# 1 (name x) (clause (pcon A) (num 1))) (clause (pcon B) (# 1 (name y) (clause (pcon C) (num 2)) (clause (pcon D) (num 3)))))",
			"# x, # y, z with | _, _ -> 1 end with | _, _ -> let x = 1 in x | a, b -> 2 end": "(# 2 (name x) (# 2 (name y) (name z) (clause (pwild) (pwild) (num 1))) " +
				"(clause (pwild) (pwild) (let x (num 1) (name x))) (clause (pname a) (pname b) (num 2)))",
		} {
			src, want = strings.ReplaceAll(src, "#", word), strings.ReplaceAll(want, "#", word)
			checkExpr(t, src, want)
			checkExpr(t, "("+src+")", want)
			checkExpr(t, "f ("+src+")+1", "(binary 0 (apply f "+want+") (num 1))")
		}
	}
}

func TestPatterns(t *testing.T) {
	for src, want := range map[string]string{
		"_":                                 "(pwild)",
		"x":                                 "(pname x)",
		"X":                                 "(pcon X)",
		"0":                                 "(pnum 0)",
		"-1":                                "(pnum -1)",
		"9223372036854775807":               "(pnum 9223372036854775807)",
		"-9223372036854775808":              "(pnum -9223372036854775808)",
		"X _ x X 1":                         "(pcon X (pwild) (pname x) (pcon X) (pnum 1))",
		"X X X":                             "(pcon X (pcon X) (pcon X))",
		"X(X x)(-1)_":                       "(pcon X (pcon X (pname x)) (pnum -1) (pwild))",
		"X 1 1":                             "(pcon X (pnum 1) (pnum 1))",
		"(_)":                               "(pwild)",
		"((x))":                             "(pname x)",
		"(X)":                               "(pcon X)",
		"(X (X (X ((-1)))))":                "(pcon X (pcon X (pcon X (pnum -1))))",
		"X (((_))) ((X (_))) (1) ((X)) (x)": "(pcon X (pwild) (pcon X (pwild)) (pnum 1) (pcon X) (pname x))",
	} {
		checkExpr(t, "match a with|"+src+"->1 end", "(match 1 (name a) (clause "+want+" (num 1)))")
		checkExpr(t, "view a,b with|"+src+","+src+"->1|_,"+src+"->1 end", "(view 2 (name a) (name b) (clause "+want+" "+want+" (num 1)) (clause (pwild) "+want+" (num 1)))")
	}
	// What only expressions may have.
	for _, src := range []string{"f @x", "f @_", "_ @x", "1 @1", "-1 @_", "(x) @x", "(X x) @x", "(X) @(X)", "X @-1", "X x@-1", "X _ @-1", "X @+ 1", "(X @+ 1)", "x @< 1", "@- 1", "@let", "@copy x", "X @copy", "@|", "(@)", "X (@)", "X (@copy x)", "(X @, x)", "(x @-> 1)"} {
		src, at := marked("match a with | " + src)
		checkWrong(t, src+" -> 1 end", at)
	}
}

func TestParentheses(t *testing.T) {
	for src, want := range map[string]string{
		"x": "(name x)", "X": "(build X)", "1": "(num 1)", "-1": "(num -1)", "f x": "(apply f (name x))", "X x": "(build X (name x))", "copy x": "(copy (name x))",
		"1 + 2": "(binary 0 (num 1) (num 2))", "1*2": "(binary 2 (num 1) (num 2))", "1<2": "(binary 5 (num 1) (num 2))",
		"let x=1 in x": "(let x (num 1) (name x))", "if a then b else c": "(if (name a) (name b) (name c))", "match x with|y->z end": "(match 1 (name x) (clause (pname y) (name z)))",
	} {
		for _, around := range [][2]string{{"(", ")"}, {"( ", "\t)"}, {"(--(\n", "--)\n)"}, {"((", "))"}, {"(((", ")))"}} {
			s := around[0] + src + around[1]
			checkExpr(t, s, want)
			checkExpr(t, "f"+s, "(apply f "+want+")")
			checkExpr(t, "F "+s+s, "(build F "+want+" "+want+")")
			checkExpr(t, "copy"+s, "(copy "+want+")")
			checkExpr(t, s+"*"+s+"%"+s, "(binary 4 (binary 2 "+want+" "+want+") "+want+")")
			checkExpr(t, s+"-"+s+"+"+s, "(binary 0 (binary 1 "+want+" "+want+") "+want+")")
			checkExpr(t, s+"<="+s, "(binary 6 "+want+" "+want+")")
			checkExpr(t, "let x="+s+"in"+s, "(let x "+want+" "+want+")")
			checkExpr(t, "if"+s+"then"+s+"else"+s, "(if "+want+" "+want+" "+want+")")
			checkExpr(t, "view"+s+","+s+"with|a,b->"+s+"end", "(view 2 "+want+" "+want+" (clause (pname a) (pname b) "+want+"))")
		}
	}
	checkExpr(t, "a - (b - c)", "(binary 1 (name a) (binary 1 (name b) (name c)))")
	checkExpr(t, "(a < b) < (c == d)", "(binary 5 (binary 5 (name a) (name b)) (binary 7 (name c) (name d)))")
	checkExpr(t, strings.Repeat("(", 30000)+"x"+strings.Repeat(")", 30000), "(name x)")
	checkExpr(t, "match x with|"+strings.Repeat("(", 30000)+"_"+strings.Repeat(")", 30000)+"->1 end", "(match 1 (name x) (clause (pwild) (num 1)))")
}

func TestNegativeNumbers(t *testing.T) {
	for src, want := range map[string]string{
		"f -1": "(binary 1 (name f) (num 1))", "f - 1": "(binary 1 (name f) (num 1))", "f (-1)": "(apply f (num -1))", "F -1": "(binary 1 (build F) (num 1))", "F (-1)": "(build F (num -1))",
		"1 -1": "(binary 1 (num 1) (num 1))", "1-1": "(binary 1 (num 1) (num 1))", "1 - -1": "(binary 1 (num 1) (num -1))", "-1 - -1": "(binary 1 (num -1) (num -1))", "(x)-1": "(binary 1 (name x) (num 1))",
		"-1 + -2 * -3": "(binary 0 (num -1) (binary 2 (num -2) (num -3)))", "-1 < -2": "(binary 5 (num -1) (num -2))", "x<-1": "(binary 5 (name x) (num -1))", "x<=-1": "(binary 6 (name x) (num -1))", "x==-1": "(binary 7 (name x) (num -1))",
		"x+-1": "(binary 0 (name x) (num -1))", "x*-1": "(binary 2 (name x) (num -1))", "x/-1": "(binary 3 (name x) (num -1))", "x%-1": "(binary 4 (name x) (num -1))",
		"copy -1": "(copy (num -1))", "copy (-1)": "(copy (num -1))", "let x=-1 in-2": "(let x (num -1) (num -2))", "if-1 then-2 else-3": "(if (num -1) (num -2) (num -3))",
		"match-1,-2 with|-3,-4->-5 end": "(match 2 (num -1) (num -2) (clause (pnum -3) (pnum -4) (num -5)))",
		"f x -1":                        "(binary 1 (apply f (name x)) (num 1))",
	} {
		checkExpr(t, src, want)
	}
	for _, src := range []string{"@- x", "@-(1)", "@- 1", "-1-@", "1 + @- 1", "1 - @- x", "copy @- 1", "copy 1 @1", "f (@- 1)", "f x -1 @y", "let x = @- 1 in x"} {
		src, at := marked(src)
		checkWrong(t, src, at)
	}
}

// operatorTexts has the operator of each operation, and operatorLevels its level.
var (
	operatorTexts  = []string{"+", "-", "*", "/", "%", "<", "<=", "=="}
	operatorLevels = []int{2, 2, 3, 3, 3, 1, 1, 1}
)

// grouped returns the text of the tree of operands with operations between them: what is divided first is the last operation of the lowest level.
func grouped(operands []string, operations []int) string {
	if len(operations) == 0 {
		return operands[0]
	}
	at := 0
	for i, op := range operations {
		if operatorLevels[op] <= operatorLevels[operations[at]] {
			at = i
		}
	}
	return fmt.Sprintf("(binary %d %s %s)", operations[at], grouped(operands[:at+1], operations[:at]), grouped(operands[at+1:], operations[at+1:]))
}

// TestOperators has all sequences of up to four operators.
func TestOperators(t *testing.T) {
	operands := []string{"a", "f b", "-3", "C d", "(e)"}
	trees := []string{"(name a)", "(apply f (name b))", "(num -3)", "(build C (name d))", "(name e)"}
	for count := range 5 {
		for code := range int(math.Pow(api.Prims, float64(count))) {
			src, wrong := operands[0], -1
			var operations []int
			for i := range count {
				op := code % api.Prims
				code /= api.Prims
				if operatorLevels[op] == 1 && slices.ContainsFunc(operations, func(o int) bool { return operatorLevels[o] == 1 }) && wrong < 0 {
					wrong = len(src) + 1
				}
				src += " " + operatorTexts[op] + " " + operands[i+1]
				operations = append(operations, op)
			}
			if wrong >= 0 {
				checkError(t, Expr, src, wrong, api.ErrSyntax)
			} else {
				checkTree(t, Expr, src, grouped(trees[:count+1], operations))
			}
		}
	}
	checkWrong(t, "1 < 2 < 3", 6)
	checkExpr(t, "1 < 2", "(binary 5 (num 1) (num 2))")
}

// TestMemory checks that results share no memory.
func TestMemory(t *testing.T) {
	const src = "module m import a (x, y) fun f (x : T) : T = match g x (h 1) with | A b (C 2) -> 1 + 2 end"
	first, _, _ := Parse(src)
	for i := range first.Leaves {
		first.Leaves[i].Text = "z"
		kids := first.Leaves[i].Kids
		for j := range kids {
			kids[j] = -1
		}
		// The spare capacity, too.
		for j := range kids[:cap(kids)] {
			kids[:cap(kids)][j] = -1
		}
	}
	for i, l := range first.Leaves {
		for _, kid := range l.Kids {
			if kid != -1 {
				t.Errorf("leaf %d has the kid %d", i, kid)
			}
		}
	}
	checkParse(t, src, "(module m (import a (name x) (name y)) (fun f (param x 0 (type T)) (type T) (match 1 (apply g (name x) (apply h (num 1))) (clause (pcon A (pname b) (pcon C (pnum 2))) (binary 0 (num 1) (num 2))))))")
}

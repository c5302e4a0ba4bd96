package core

import (
	"fmt"
	"slices"
	"strings"
	"testing"

	"cellarer/api"
)

// checkBoth checks a program that Check accepts by its text, or one that it rejects.
func checkBoth(t *testing.T, text string, want api.Errno) {
	t.Helper()
	p := plainOf(text)
	checkCheck(t, p, want)
	if want != api.OK {
		checkParse(t, text, api.Program{}, 0, want)
		return
	}
	checkText(t, p, text, api.OK)
	checkParse(t, text, p, 0, api.OK)
}

// plainOf returns the program of a text with the right lines, which need not be valid.
func plainOf(text string) api.Program {
	lines, at := plainSyntax(text)
	if at >= 0 {
		panic(text[at:])
	}
	return plainProgram(lines, namesOf(lines))
}

// TestMostFunctions has exactly as many functions as there may be, and one more.
func TestMostFunctions(t *testing.T) {
	text := func(count int) string {
		out := ""
		for i := range count {
			out += fmt.Sprintf("extern f%d(): Int\n", i)
		}
		return out
	}
	checkBoth(t, text(api.MaxFuns), api.OK)
	checkBoth(t, text(api.MaxFuns+1), api.ErrMany)
	checkBoth(t, text(3*api.MaxFuns), api.ErrMany)
	// Too many functions precede what is wrong in one of them.
	p := plainOf(text(api.MaxFuns + 1))
	p.Funs[0].Name = ""
	checkCheck(t, p, api.ErrMany)
	checkFun(t, p, 0, -1, api.ErrForm)
	checkFun(t, p, api.MaxFuns, 0, api.OK)
	p.Funs = p.Funs[:api.MaxFuns]
	checkCheck(t, p, api.ErrForm)
}

// TestMostParams has exactly as many parameters as there may be, and one more.
func TestMostParams(t *testing.T) {
	for _, kind := range []string{"extern", "fun"} {
		text := func(count int) string {
			var params []string
			for i := range count {
				params = append(params, fmt.Sprintf("v%d: Int", i))
			}
			out := kind + " f(" + strings.Join(params, ", ") + "): Int\n"
			if kind == "fun" {
				out += fmt.Sprintf("  v%d = 1\n  ret v%d\n", count, count)
			}
			return out
		}
		for count := range api.MaxParams + 1 {
			checkBoth(t, text(count), api.OK)
		}
		checkBoth(t, text(api.MaxParams+1), api.ErrMany)
		checkBoth(t, text(api.MaxParams+100), api.ErrMany)
		p := plainOf(text(api.MaxParams + 1))
		checkFun(t, p, 0, -1, api.ErrMany)
	}
}

// nums returns the text of a function that binds Ints from one variable on.
func nums(count int) string {
	var out strings.Builder
	out.WriteString("fun f(): Int\n")
	for i := range count {
		fmt.Fprintf(&out, "  v%d = %d\n", i, i)
	}
	return out.String() + "  ret v0\n"
}

// TestMostVars has exactly as many variables as there may be, and one more.
func TestMostVars(t *testing.T) {
	checkBoth(t, nums(api.MaxVars), api.OK)
	p := plainOf(nums(api.MaxVars))
	f := &p.Funs[0]
	// One more variable, which is bound like the others.
	f.Vars = append(f.Vars, api.Var{})
	f.Code = append(f.Code, api.Node{Op: api.Num, Var: api.MaxVars, Next: f.Body})
	f.Body = len(f.Code) - 1
	checkFun(t, p, 0, -1, api.ErrMany)
	checkCheck(t, p, api.ErrMany)
	text := nums(api.MaxVars + 1)
	checkParseError(t, text, strings.Index(text, "  v512"), api.ErrSyntax)
	// This holds for variables without a node, too, and for those of extern functions.
	p.Funs[0] = api.Fun{Name: "f", Params: 1, Vars: make([]api.Var, api.MaxVars), Code: []api.Node{{Op: api.Ret, Args: []int{0}}}}
	checkFun(t, p, 0, -1, api.ErrForm)
	p.Funs[0].Vars = make([]api.Var, api.MaxVars+1)
	checkFun(t, p, 0, -1, api.ErrMany)
	p.Funs[0] = api.Fun{Name: "f", Params: 1, Vars: make([]api.Var, api.MaxVars+1), Extern: true}
	checkFun(t, p, 0, -1, api.ErrMany)
	p.Funs[0].Vars = p.Funs[0].Vars[:api.MaxVars]
	checkFun(t, p, 0, -1, api.ErrForm)
}

// drops returns the text of a function with a number of nodes.
func drops(nodes int) string {
	return "data L = N | C L\nfun f(v0: L): L\n" + strings.Repeat("  drop v0\n", nodes-1) + "  ret v0\n"
}

// TestMostNodes has exactly as many nodes as there may be, and one more.
func TestMostNodes(t *testing.T) {
	checkBoth(t, drops(api.MaxNodes), api.OK)
	checkBoth(t, drops(api.MaxNodes+1), api.ErrMany)
	p := plainOf(drops(api.MaxNodes + 1))
	checkFun(t, p, 0, -1, api.ErrMany)
	// Nodes that nothing leads to count, too.
	p.Funs[0].Code = append(plainOf(drops(5)).Funs[0].Code, make([]api.Node, api.MaxNodes-5)...)
	checkFun(t, p, 0, 5, api.ErrForm)
	p.Funs[0].Code = append(p.Funs[0].Code, api.Node{})
	checkFun(t, p, 0, -1, api.ErrMany)
	// Two functions have twice as many nodes.
	two := drops(api.MaxNodes-1000) + "fun g(v0: L): L\n" + strings.Repeat("  drop v0\n", 2000) + "  ret v0\n"
	checkBoth(t, two, api.OK)
}

// matches returns a program with a function in which Matches are nested, each in the last branch of another one.
func matches(depth int) api.Program {
	p := plainOf("fun f(v0: Bool): Bool\n  ret v0\n")
	f := &p.Funs[0]
	f.Code = nil
	for i := range depth {
		f.Code = append(f.Code, api.Node{Op: api.Match, Args: []int{0}, Branches: []api.Branch{{Then: 2*i + 1}, {Then: 2*i + 2}}}, api.Node{Op: api.Ret, Args: []int{0}})
	}
	f.Code = append(f.Code, api.Node{Op: api.Ret, Args: []int{0}})
	return p
}

// TestDeepest has Matches that are nested so deeply that the text is exactly long enough, and too long.
func TestDeepest(t *testing.T) {
	longest := 0
	for depth := 1; longest < 2; depth += 1 + depth/20 {
		p := matches(depth)
		checkCheck(t, p, api.OK)
		text := plainText(p)
		if len(text) > api.MaxSource {
			longest++
			checkText(t, p, "", api.ErrLong)
			checkParseError(t, text, 0, api.ErrLong)
			continue
		}
		checkText(t, p, text, api.OK)
		checkParse(t, text, p, 0, api.OK)
	}
	// With as many nodes as there may be, and in several functions, the lines have many millions of bytes.
	p := matches((api.MaxNodes - 1) / 2)
	checkCheck(t, p, api.OK)
	checkText(t, p, "", api.ErrLong)
	for i := range 100 {
		f := p.Funs[0]
		f.Name = fmt.Sprintf("f%d", i)
		p.Funs = append(p.Funs, f)
	}
	p.Funs = p.Funs[1:]
	checkText(t, p, "", api.ErrLong)
}

// TestLongestText has programs whose texts have exactly as many bytes as there may be, and some more or less.
func TestLongestText(t *testing.T) {
	for length := api.MaxSource - 12; length < api.MaxSource+12; length++ {
		head := drops(3000) + "fun g(v0: L): L\n"
		// The last function has a name that is as long as it takes.
		rest := length - len(head) - len("  ret v0\n") - len("extern (): L\n")
		text := head + strings.Repeat("  drop v0\n", rest/10-1) + "  ret v0\nextern " + strings.Repeat("x", 10+rest%10) + "(): L\n"
		if len(text) != length {
			t.Fatalf("the text has %d bytes, want %d", len(text), length)
		}
		p := plainOf(text)
		checkCheck(t, p, api.OK)
		if length > api.MaxSource {
			checkText(t, p, "", api.ErrLong)
			checkParseError(t, text, 0, api.ErrLong)
			checkParseError(t, strings.Repeat("\n", length), 0, api.ErrLong)
			continue
		}
		checkText(t, p, text, api.OK)
		checkParse(t, text, p, 0, api.OK)
		checkParseError(t, strings.Repeat("\n", length), 0, api.ErrSyntax)
		checkParseError(t, text[:length-1], strings.LastIndex(text, "extern"), api.ErrSyntax)
		// A whole line is too long, too.
		p.Funs = append(p.Funs, api.Fun{Name: "z", Extern: true})
		if longer := text + "extern z(): Int\n"; len(longer) > api.MaxSource {
			checkText(t, p, "", api.ErrLong)
			checkParseError(t, longer, 0, api.ErrLong)
		}
	}
}

// TestLargestTypes has as many data types, constructors and fields as there may be, and one more.
func TestLargestTypes(t *testing.T) {
	text := func(types, cons, fields int) string {
		var lines []string
		for i := range types - 1 {
			var list []string
			for con := range 2 {
				list = append(list, fmt.Sprintf("C%d_%d", i, con))
			}
			lines = append(lines, fmt.Sprintf("data T%d = %s\n", i, strings.Join(list, " | ")))
		}
		var list []string
		for con := range cons {
			list = append(list, fmt.Sprintf("D%d", con)+strings.Repeat(" Int", fields))
		}
		return strings.Join(lines, "") + "data Last = " + strings.Join(list, " | ") + "\nextern f(v0: Last): Last\n"
	}
	checkBoth(t, text(api.MaxDatas-1, api.MaxCons, api.MaxFields), api.OK)
	checkBoth(t, text(api.MaxDatas, 1, 1), api.ErrMany)
	checkBoth(t, text(2, api.MaxCons+1, 1), api.ErrMany)
	checkBoth(t, text(2, 1, api.MaxFields+1), api.ErrMany)
	// Names that are as long as they may be.
	for _, name := range []string{"X" + strings.Repeat("y", api.MaxName-1), "X" + strings.Repeat("_9", 15) + "Z"} {
		checkBoth(t, "data "+name+" = "+name+" Int | A "+name+"\nfun f(v0: "+name+"): "+name+"\n  take v0\n  | "+name+" v1\n    v2 = "+name+" v1\n    ret v2\n  | A v3\n    hole A _ : f v3\n", api.OK)
		for _, line := range []string{"data " + name + "y = A\n", "data A = " + name + "y\n", "data A = B " + name + "y\n", "extern f(v0: " + name + "y): Int\n", "extern f(): " + name + "y\n"} {
			checkParseError(t, line, 0, api.ErrSyntax)
		}
	}
	for _, name := range []string{strings.Repeat("f", api.MaxName), strings.Repeat("f", api.MaxName) + "." + strings.Repeat("g", api.MaxName)} {
		checkBoth(t, "fun "+name+"(): Int\n  v0 = call "+name+"\n  tail "+name+"\n", api.OK)
		checkParseError(t, "fun "+name+"f(): Int\n  v0 = 1\n  ret v0\n", 0, api.ErrSyntax)
		text := "fun f(): Int\n  v0 = call " + name + "f\n  ret v0\n"
		checkParseError(t, text, strings.Index(text, "  v0"), api.ErrSyntax)
	}
}

// TestManyNames has a function with as many nodes, variables and parameters as there may be at once.
func TestManyNames(t *testing.T) {
	var out strings.Builder
	out.WriteString("fun f(v0: Int, v1: Int, v2: Int, v3: Int, v4: Int, v5: Int): Int\n")
	for v := 6; v < api.MaxVars; v++ {
		fmt.Fprintf(&out, "  v%d = add v%d v%d\n", v, v-1, v/2)
	}
	text := out.String() + "  tail f v511 v510 v0 v1 v2 v3\n"
	checkBoth(t, text, api.OK)
	p := plainOf(text)
	slices.Reverse(p.Funs[0].Code[3].Args)
	checkCheck(t, p, api.OK)
}

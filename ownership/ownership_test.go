package ownership

import (
	"fmt"
	"math"
	"slices"
	"testing"

	"cellarer/api"
	"cellarer/core"
)

// plainCheckAll returns the first violation of one of the first rules of a program, with its rule.
func plainCheckAll(p api.Program, rules int) (int, int, int) {
	for fun, f := range p.Funs {
		if node, rule := (plain{p, f}).violation(rules); rule > 0 {
			return fun, node, rule
		}
	}
	return 0, 0, 0
}

// plainComplete returns a program with all functions completed.
func plainComplete(p api.Program) api.Program {
	result := clone(p)
	for fun, f := range p.Funs {
		result.Funs[fun] = plain{p, f}.completed()
	}
	return result
}

// checkPlain checks all results for a valid program against the plain ones, and returns the number of the first rule that is violated.
func checkPlain(t *testing.T, p api.Program) int {
	t.Helper()
	for fun, f := range p.Funs {
		s := plain{p, f}
		node, rule := s.violation(5)
		checkCheck(t, p, fun, node, errorOf(rule))
		var roots []int
		for v := range f.Vars {
			roots = append(roots, s.root(v))
		}
		checkRoots(t, p, fun, roots, api.OK)
		for node := range f.Code {
			checkLive(t, p, fun, node, s.live(node), api.OK)
		}
	}
	fun, node, rule := plainCheckAll(p, 4)
	if rule > 0 {
		checkComplete(t, p, api.Program{}, fun, node, errorOf(rule))
	} else {
		checkComplete(t, p, plainComplete(p), 0, 0, api.OK)
	}
	fun, node, rule = plainCheckAll(p, 5)
	checkCheckAll(t, p, fun, node, errorOf(rule))
	return rule
}

// TestDrawnPrograms compares all results for drawn programs with the plain ones.
func TestDrawnPrograms(t *testing.T) {
	table := parse(t, "")
	var rules [6]int
	for seed := range int64(2000) {
		r := newDrawn(seed)
		p := r.program(table, []int{0, 10, 100, 1000}[r.Intn(4)])
		if e := core.Check(p); e != api.OK {
			t.Fatalf("the drawn program %s is not valid: %d", brief(p), e)
		}
		rules[checkPlain(t, p)]++
		if c, _, _, e := Complete(p); e == api.OK {
			if rule := checkPlain(t, c); rule != 0 {
				t.Fatalf("the completed program %s violates rule %d", brief(c), rule)
			}
			r.checkDisturbed(t, c, &rules)
		}
	}
	for rule, count := range rules {
		if count < 10 {
			t.Errorf("only %d programs violate rule %d", count, rule)
		}
	}
}

// checkDisturbed checks a program in which an argument is changed, or a Drop is left out, if it is still valid.
func (r drawn) checkDisturbed(t *testing.T, p api.Program, rules *[6]int) {
	t.Helper()
	p = clone(p)
	f := &p.Funs[r.Intn(len(p.Funs))]
	if len(f.Code) == 0 {
		return
	}
	n := &f.Code[r.Intn(len(f.Code))]
	if list := [][]int{n.Args, n.More}[r.Intn(2)]; len(list) > 0 && list[0] >= 0 {
		list[r.Intn(len(list))] = r.Intn(len(f.Vars))
	}
	if core.Check(p) == api.OK {
		rules[checkPlain(t, p)]++
	}
}

// TestConsequences checks that a completed program satisfies all rules, that completing it again changes nothing,
// and that every path to a last node consumes each owned variable that is a parameter or bound on it exactly once.
func TestConsequences(t *testing.T) {
	table := parse(t, "")
	count := 0
	for seed := range int64(3000) {
		r := newDrawn(seed)
		p, _, _, e := Complete(r.program(table, 1000))
		if e != api.OK {
			continue
		}
		if e := core.Check(p); e != api.OK {
			t.Fatalf("the completed program %s is not valid: %d", brief(p), e)
		}
		checkCheckAll(t, p, 0, 0, api.OK)
		checkComplete(t, p, p, 0, 0, api.OK)
		for _, f := range p.Funs {
			s := plain{p, f}
			for _, at := range plainStops(f) {
				if len(plainWays(f.Code[at.node])) > 0 {
					continue
				}
				var consumed, owned []int
				for _, node := range at.path {
					consumed = append(consumed, s.consumes(f.Code[node])...)
				}
				for _, v := range at.bound {
					if s.owned(v) {
						owned = append(owned, v)
					}
				}
				slices.Sort(consumed)
				slices.Sort(owned)
				if !slices.Equal(consumed, owned) {
					t.Fatalf("the path %v of %s consumes %v, but %v are owned", at.path, brief(f), consumed, owned)
				}
				count++
			}
		}
	}
	if count < 2000 {
		t.Errorf("there were only %d paths", count)
	}
}

// TestRoots has the roots of parameters, and of variables that each operation binds.
func TestRoots(t *testing.T) {
	p := parse(t, externs+code("(v0: Tree, read v1: Tree, v2: Int, v3: Color): List; read v0; | Leaf; .v4 = Nil; .v5 = copy v4; .v6 = call own v5; .v7 = 1; .v8 = add v7 v2; .tail look v6;"+
		"| Node v9 v10 v11; .read v9; .| Leaf; ..read v1; ..| Leaf; ...ret v10; ..| Node v12 v13 v14; ...read v13; ...| Nil; ....ret v13; ...| Cons v15 v16; ....ret v16;"+
		".| Node v17 v18 v19; ..take v0; ..| Leaf; ...ret v18; ..| Node v20 v21 v22; ...read v21; ...| Nil; ....ret v21; ...| Cons v23 v24; ....ret v24"))
	checkRoots(t, p, f, []int{0, 1, -1, -1, 4, 5, 6, -1, -1, 0, 0, 0, 1, 1, 1, -1, 1, 0, 0, 0, 20, 21, 22, -1, 21}, api.OK)
	for fun, roots := range [][]int{{0}, {0}, {0, 1}, {0, 1}, {0, 1}, {-1, 1, -1, 3}} {
		checkRoots(t, p, fun, roots, api.OK)
	}
	checkRoots(t, parse(t, "fun f(): Int\n  tail f\n"), 0, nil, api.OK)
}

// TestLive has variables that are live because of each operation, of their parts, and of one branch only.
func TestLive(t *testing.T) {
	for _, x := range []struct {
		text string
		live [][]int // for each node
	}{
		{"(v0: List): List; ret v0", [][]int{{0}}},
		{"(read v0: List): List; v1 = copy v0; ret v1", [][]int{nil, {1}}},
		{"(v0: List, v1: Int): List; v2 = copy v0; v3 = add v1 v1; drop v0; ret v2", [][]int{{0}, {0, 2}, {0, 2}, {2}}},
		{"(v0: List, v1: Int): List; v2 = Cons v1 v0; v3 = call own v2; tail own v3", [][]int{{0}, {2}, {3}}},
		{"(v0: List, v1: List): List; v2 = call both v0 v1; drop v1; tail look v2", [][]int{{0, 1}, {1, 2}, {2}}},
		{"(v0: List, v1: List, v2: Int): List; hole Cons v2 _ : both v0 v1", [][]int{{0, 1}}},
		{"(v0: List, v1: List): Pair; hole Pair v1 _ : own v0", [][]int{{0, 1}}},
		{"(v0: List, v1: List): List; take v0; | Nil; .ret v1; | Cons v2 v3; .v4 = Cons v2 v3; .ret v4", [][]int{{0, 1}, {1}, {3}, {4}}},
		// By a part, also of a part, and by what must not be consumed.
		{"(v0: List): List; read v0; | Nil; .v1 = Nil; .ret v1; | Cons v2 v3; .v4 = Nil; .v5 = copy v3; .ret v5", [][]int{{0}, nil, {1}, {0}, {0}, {5}}},
		{"(v0: Tree): Int; read v0; | Leaf; .v1 = 1; .ret v1; | Node v2 v3 v4; .read v2; .| Leaf; ..v5 = 1; ..ret v5; .| Node v6 v7 v8; ..read v7; ..| Nil; ...v9 = 1; ...ret v9; ..| Cons v10 v11; ...ret v10",
			[][]int{{0}, nil, nil, {0}, nil, nil, {0}, nil, nil, nil}},
		{"(v0: Pair): List; read v0; | Pair v1 v2; .ret v2; | None; .v3 = Nil; .ret v3", [][]int{{0}, {0}, nil, {3}}},
		// Used twice, and unused.
		{"(v0: List, v1: List): List; drop v0; drop v0; v2 = Nil; v3 = 5; ret v2", [][]int{{0}, {0}, nil, {2}, {2}}},
		// Flat and borrowed ones never are.
		{"(v0: Color, read v1: List): Color; read v0; | Red; .ret v0; | Green; .v2 = call look v1; .ret v0; | Blue; .drop v1; .ret v0", [][]int{nil, nil, nil, nil, nil, nil}},
	} {
		p := parse(t, externs+code(x.text))
		for node, live := range x.live {
			if want := (plain{p, p.Funs[f]}).live(node); !equal(want, live) {
				t.Fatalf("the plain answer for %s at %d is %v, want %v", x.text, node, want, live)
			}
			checkLive(t, p, f, node, live, api.OK)
		}
		checkPlain(t, p)
		// In ascending order, whatever the numbers of variables are.
		for seed := range int64(20) {
			p.Funs[f] = newDrawn(seed).shuffled(p.Funs[f])
			checkPlain(t, p)
		}
	}
}

// TestErrors has the errors in their order.
func TestErrors(t *testing.T) {
	p := parse(t, externs+code("(read v0: List): List; ret v0")+"fun g(v0: List): Int\n  v1 = 1\n  ret v1\n")
	checkCheck(t, p, f, 0, api.ErrMode)
	checkCheck(t, p, f+1, 1, api.ErrUse)
	for fun := range f {
		checkCheck(t, p, fun, 0, api.OK)
		for _, node := range []int{-1, 0, 1} {
			checkLive(t, p, fun, node, nil, api.ErrRange)
		}
	}
	for _, fun := range []int{math.MinInt, -1, f + 2, math.MaxInt} {
		checkCheck(t, p, fun, 0, api.ErrRange)
		checkRoots(t, p, fun, nil, api.ErrRange)
		checkLive(t, p, fun, 0, nil, api.ErrRange)
	}
	for _, node := range []int{math.MinInt, -1, 2, math.MaxInt} {
		checkLive(t, p, f+1, node, nil, api.ErrRange)
	}
	checkLive(t, p, f+1, 1, nil, api.OK)
	// A program that is not valid, in another function or in its table.
	for _, change := range []func(p *api.Program){
		func(p *api.Program) { p.Datas = nil },
		func(p *api.Program) { p.Datas[1].Cons[1].Fields[0] = 77 },
		func(p *api.Program) { p.Funs[f+1].Code[0].Next = 7 },
		func(p *api.Program) { p.Funs[f+1].Result = 2 },
		func(p *api.Program) { p.Funs[0].Name = "look" },
		func(p *api.Program) { p.Funs[f].Vars[0].Type = 0 },
		func(p *api.Program) { p.Funs[f].Code[0].Op = -1 },
		func(p *api.Program) { p.Funs[f].Params = -1 },
		func(p *api.Program) { p.Funs[f+1].Code = append(p.Funs[f+1].Code, api.Node{}) },
	} {
		q := clone(p)
		change(&q)
		for _, fun := range []int{-1, 0, f, f + 1, f + 2} {
			checkCheck(t, q, fun, 0, api.ErrForm)
			checkRoots(t, q, fun, nil, api.ErrForm)
			checkLive(t, q, fun, 9, nil, api.ErrForm)
		}
		checkCheckAll(t, q, 0, 0, api.ErrForm)
		checkComplete(t, q, api.Program{}, 0, 0, api.ErrForm)
	}
	checkCheckAll(t, api.Program{}, 0, 0, api.ErrForm)
	checkComplete(t, api.Program{}, api.Program{}, 0, 0, api.ErrForm)
	empty := parse(t, "")
	checkCheckAll(t, empty, 0, 0, api.OK)
	checkComplete(t, empty, empty, 0, 0, api.OK)
	checkCheck(t, empty, 0, 0, api.ErrRange)
}

// TestFirstViolation has several violations: the first one in preorder of the first function counts, whatever the numbers of nodes are.
func TestFirstViolation(t *testing.T) {
	text := code("(v0: List, read v1: List, v2: Color): List; read v2; | Red; .drop v0; .ret v0; | Green; .drop v1; .drop v0; .v3 = Nil; .ret v3; | Blue; .v4 = Nil; .ret v4")
	p := parse(t, externs+text)
	for seed := range int64(100) {
		r := newDrawn(seed)
		q := clone(p)
		q.Funs[f] = r.shuffled(p.Funs[f])
		checkPlain(t, q)
		node := q.Funs[f].Code[q.Funs[f].Body].Branches[0].Then
		checkCheck(t, q, f, q.Funs[f].Code[node].Next, api.ErrUse)
	}
	// Rule 5 is violated before rule 1, and in an earlier function; Complete does not mind.
	p = parse(t, externs+"fun f(v0: List, v1: List): List\n  ret v1\n"+"fun g(v0: List, read v1: List, v2: Color): List\n  read v2\n  | Red\n    v3 = Nil\n    ret v3\n  | Green\n    drop v0\n    ret v1\n  | Blue\n    tail own v0\n"+"fun h(read v0: List): List\n  ret v0\n")
	checkCheck(t, p, f, 0, api.ErrUse)
	checkCheck(t, p, f+1, 2, api.ErrUse)
	checkCheck(t, p, f+2, 0, api.ErrMode)
	checkCheckAll(t, p, f, 0, api.ErrUse)
	checkComplete(t, p, api.Program{}, f+1, 4, api.ErrMode)
	// Rule 1 precedes the others at the same node.
	p = parse(t, externs+code("(read v0: List, v1: List): Pair; drop v1; v2 = Pair v1 v0; ret v2"))
	checkCheck(t, p, f, 1, api.ErrMode)
	p = parse(t, externs+code("(read v0: List, v1: List): List; tail two v1 v0"))
	checkCheck(t, p, f, 0, api.ErrMode)
}

// TestMemory checks that programs are neither changed nor kept, and that results are new.
func TestMemory(t *testing.T) {
	p := clone(parse(t, externs+code("(v0: List, v1: Tree, v2: List): List; read v0; | Nil; .ret v2; | Cons v3 v4; .v5 = copy v4; .take v1; .| Leaf; ..hole Cons v3 _ : own v5; .| Node v6 v7 v8; ..tail own v7")))
	before := whole(p)
	first, _, _, e := Complete(p)
	if e != api.OK {
		t.Fatal(e)
	}
	want := fmt.Sprint(first)
	spoil(first)
	roots, _ := Roots(p, f)
	live, _ := Live(p, f, 2)
	wantLists := fmt.Sprint(roots, live)
	for _, list := range [][]int{roots, live} {
		for i := range list[:cap(list)] {
			list[:cap(list)][i] = -99
		}
	}
	Check(p, f)
	CheckAll(p)
	roots, _ = Roots(p, f)
	live, _ = Live(p, f, 2)
	second, _, _, _ := Complete(p)
	if whole(p) != before || fmt.Sprint(second) != want || fmt.Sprint(roots, live) != wantLists {
		t.Errorf("the program %s was changed or kept: %s", before, whole(p))
	}
}

// whole returns the text of a program with the spare capacity of its lists.
func whole(p api.Program) string {
	out := fmt.Sprint(p, p.Datas[:cap(p.Datas)], p.Funs[:cap(p.Funs)])
	for _, f := range p.Funs {
		out += fmt.Sprint(f.Vars[:cap(f.Vars)], f.Code[:cap(f.Code)])
		for _, n := range f.Code {
			out += fmt.Sprint(n.Args[:cap(n.Args)], n.More[:cap(n.More)], n.Branches[:cap(n.Branches)])
			for _, b := range n.Branches {
				out += fmt.Sprint(b.Binds[:cap(b.Binds)])
			}
		}
	}
	return out
}

// spoil overwrites all that belongs to a program.
func spoil(p api.Program) {
	for _, data := range p.Datas {
		for _, c := range data.Cons {
			for i := range c.Fields {
				c.Fields[i] = 99
			}
		}
		clear(data.Cons)
	}
	clear(p.Datas)
	for _, f := range p.Funs {
		for _, n := range f.Code {
			for _, b := range n.Branches {
				clear(b.Binds)
			}
			clear(n.Args)
			clear(n.More)
			clear(n.Branches)
		}
		clear(f.Vars)
		clear(f.Code)
	}
	clear(p.Funs)
}

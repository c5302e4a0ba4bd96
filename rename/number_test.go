package rename

import (
	"fmt"
	"math"
	"runtime/debug"
	"slices"
	"testing"

	"cellarer/api"
)

// TestExample has the first example of the chapter.
func TestExample(t *testing.T) {
	f := api.Fun{Vars: make([]api.Var, 4), Code: []api.Node{{Op: api.Ret, Args: []int{3}}, {Op: api.Num, Var: 3, Num: 5}}, Body: 1}
	checkNormal(t, f, api.Fun{Vars: make([]api.Var, 1), Code: []api.Node{{Op: api.Num, Num: 5, Next: 1}, {Op: api.Ret, Args: []int{0}}}}, api.OK)
	checkMaps(t, f, []int{1, 0}, []int{-1, -1, -1, 0}, api.OK)
}

// branching is a function with two parameters whose nodes and variables have numbers in no order:
//
//	2: match v1: | v7 v3: 5: v2 = .. v7; 0: ret v2 | : 6: hole v1 _ v0 : v1 | v5: 1: drop v5; 4: v4 = 9; 8: tail v4 v0
//
// Nodes 3 and 7 are not reached, and nothing binds v6 and v8.
func branching() api.Fun {
	f := api.Fun{Name: "f", Params: 2, Result: 3, Body: 2, Vars: make([]api.Var, 9), Code: []api.Node{
		{Op: api.Ret, Args: []int{2}},
		{Op: api.Drop, Args: []int{5}, Next: 4},
		{Op: api.Match, Args: []int{1}, Branches: []api.Branch{{Binds: []int{7, 3}, Then: 5}, {Then: 6}, {Binds: []int{5}, Then: 1}}},
		{Op: api.Prim, Var: 1, Args: []int{99, -7}, Next: 2},
		{Op: api.Num, Var: 4, Num: 9, Next: 8},
		{Op: api.Copy, Var: 2, Args: []int{7}, Next: 0},
		{Op: api.Hole, Args: []int{1, -1, 0}, Num: 1, More: []int{1}},
		{Op: api.Match, Args: []int{6}, Branches: []api.Branch{{Binds: []int{0, 7, 99}, Then: -8}, {Then: 2}}},
		{Op: api.Tail, Args: []int{4, 0}, Fun: 77},
	}}
	for v := range f.Vars {
		f.Vars[v] = api.Var{Type: api.Type(v * 10), Read: v%2 == 0}
	}
	return f
}

// TestNumbers has the new numbers of nodes and variables in a function with branches.
func TestNumbers(t *testing.T) {
	f := branching()
	checkMaps(t, f, []int{2, 4, 0, -1, 5, 1, 3, -1, 6}, []int{0, 1, 4, 3, 6, 5, -1, 2, -1}, api.OK)
	want := api.Fun{Name: "f", Params: 2, Result: 3, Code: []api.Node{
		{Op: api.Match, Args: []int{1}, Branches: []api.Branch{{Binds: []int{2, 3}, Then: 1}, {Then: 3}, {Binds: []int{5}, Then: 4}}},
		{Op: api.Copy, Var: 4, Args: []int{2}, Next: 2},
		{Op: api.Ret, Args: []int{4}},
		{Op: api.Hole, Args: []int{1, -1, 0}, Num: 1, More: []int{1}},
		{Op: api.Drop, Args: []int{5}, Next: 5},
		{Op: api.Num, Var: 6, Num: 9, Next: 6},
		{Op: api.Tail, Args: []int{6, 0}, Fun: 77},
	}}
	for _, v := range []int{0, 1, 7, 3, 2, 5, 4} {
		want.Vars = append(want.Vars, f.Vars[v])
	}
	checkNormal(t, f, want, api.OK)
	checkNormal(t, want, want, api.OK)
	checkMaps(t, want, []int{0, 1, 2, 3, 4, 5, 6}, []int{0, 1, 2, 3, 4, 5, 6}, api.OK)
	// An extern function has nothing but its parameters.
	f.Extern = true
	checkNormal(t, f, api.Fun{Name: "f", Params: 2, Result: 3, Vars: f.Vars[:2], Extern: true}, api.OK)
	checkMaps(t, f, slices.Repeat([]int{-1}, 9), []int{0, 1, -1, -1, -1, -1, -1, -1, -1}, api.OK)
	checkNormal(t, api.Fun{Extern: true, Body: -5, Code: []api.Node{{Next: 8}}}, api.Fun{Extern: true}, api.OK)
}

// TestFields has the numbers in all fields of all operations: which ones change, and which remain. v0 is a parameter, the Body binds v3,
// and where n binds a variable, this is v4.
func TestFields(t *testing.T) {
	for op := -1; op <= api.Ops; op++ {
		n := api.Node{Op: op, Var: 4, Args: []int{3, 0}, Con: 3, Num: 3, Fun: 3, More: []int{3, 4, 1, 0, -2, 99}, Take: true, Branches: []api.Branch{{Binds: []int{4}, Then: 0}}}
		want := cloneNode(n)
		isBound, hasKid := false, false
		switch op {
		case api.Prim, api.Make, api.Copy, api.Call:
			isBound, hasKid = true, true
			want.Var, want.Args, want.More, want.Next = 2, []int{1, 0}, []int{1, 2, -1, 0, -2, 99}, 2
		case api.Num:
			isBound, hasKid = true, true
			want.Var, want.Next = 2, 2
		case api.Drop:
			hasKid = true
			want.Args, want.More, want.Next = []int{1, 0}, []int{1, -1, -1, 0, -2, 99}, 2
		case api.Ret, api.Tail:
			want.Args, want.More = []int{1, 0}, []int{1, -1, -1, 0, -2, 99}
		case api.Hole:
			n.More = []int{3, 0, -2}
			want.Args, want.More = []int{1, 0}, []int{1, 0, -2}
		case api.Match:
			isBound, hasKid = true, true
			want.Args, want.More, want.Branches = []int{1, 0}, []int{1, 2, -1, 0, -2, 99}, []api.Branch{{Binds: []int{2}, Then: 2}}
		}
		f := api.Fun{Params: 1, Body: 1, Vars: []api.Var{{}, {Type: 1}, {Type: 2}, {Type: 3}, {Type: 4}}, Code: []api.Node{{Op: -1}, {Op: api.Num, Var: 3, Next: 3}, {Op: -1}, n}}
		result := api.Fun{Params: 1, Vars: []api.Var{{}, {Type: 3}}, Code: []api.Node{{Op: api.Num, Var: 1, Next: 1}, want}}
		if isBound {
			result.Vars = append(result.Vars, api.Var{Type: 4})
		}
		if hasKid {
			result.Code = append(result.Code, api.Node{Op: -1})
		}
		checkNormal(t, f, result, api.OK)
	}
}

// wrong is a change of a function that makes it ill-shaped.
type wrong struct {
	name   string
	change func(f *api.Fun)
}

// wrongs returns changes of the function branching, for each way in which a function is not well-shaped.
func wrongs() []wrong {
	at := func(f *api.Fun, node int) *api.Node { return &f.Code[node] }
	return []wrong{
		{"a negative number of parameters", func(f *api.Fun) { f.Params = -1 }},
		{"very few parameters", func(f *api.Fun) { f.Params = math.MinInt }},
		{"more parameters than variables", func(f *api.Fun) { *f = api.Fun{Params: 3, Vars: f.Vars[:2], Code: []api.Node{{}}} }},
		{"no node", func(f *api.Fun) { f.Code = nil }},
		{"a negative Body", func(f *api.Fun) { f.Body = -1 }},
		{"a Body behind the nodes", func(f *api.Fun) { f.Body = 9 }},
		{"a negative kid", func(f *api.Fun) { at(f, 1).Next = -1 }},
		{"a kid behind the nodes", func(f *api.Fun) { at(f, 4).Next = 9 }},
		{"a negative kid of a branch", func(f *api.Fun) { at(f, 2).Branches[1].Then = math.MinInt }},
		{"a kid of a branch behind the nodes", func(f *api.Fun) { at(f, 2).Branches[2].Then = 9 }},
		{"a node that two branches reach", func(f *api.Fun) { at(f, 2).Branches[1].Then = 1 }},
		{"a node that two nodes reach", func(f *api.Fun) { at(f, 1).Next = 6 }},
		{"a node that reaches itself", func(f *api.Fun) { at(f, 4).Next = 4 }},
		{"a node that reaches an earlier one", func(f *api.Fun) { at(f, 4).Next = 1 }},
		{"a Body that is a kid", func(f *api.Fun) { at(f, 5).Next = 2 }},
		{"a Body that is its own kid", func(f *api.Fun) { at(f, 2).Branches[0].Then = 2 }},
		{"a variable that does not exist", func(f *api.Fun) { at(f, 4).Var = 9; at(f, 8).Args[0] = 1 }},
		{"a negative variable", func(f *api.Fun) { at(f, 4).Var = -1; at(f, 8).Args[0] = 1 }},
		{"a variable of a branch that does not exist", func(f *api.Fun) { at(f, 2).Branches[0].Binds[1] = 9 }},
		{"a negative variable of a branch", func(f *api.Fun) { at(f, 2).Branches[0].Binds[1] = -1 }},
		{"a parameter that is bound", func(f *api.Fun) { at(f, 4).Var = 1; at(f, 8).Args[0] = 1 }},
		{"a parameter that a branch binds", func(f *api.Fun) { at(f, 2).Branches[0].Binds[1] = 0 }},
		{"a variable that a branch binds twice", func(f *api.Fun) { at(f, 2).Branches[0].Binds[1] = 7 }},
		{"a variable that two branches bind", func(f *api.Fun) { at(f, 2).Branches[0].Binds[1] = 5 }},
		{"a variable that two nodes bind", func(f *api.Fun) { at(f, 5).Var = 3; at(f, 0).Args[0] = 3 }},
		{"a variable that nodes of two branches bind", func(f *api.Fun) { at(f, 4).Var = 2; at(f, 8).Args[0] = 2 }},
		{"a variable that nothing binds", func(f *api.Fun) { at(f, 0).Args[0] = 8 }},
		{"a variable of another branch", func(f *api.Fun) { at(f, 8).Args[1] = 7 }},
		{"a variable that another branch's node binds", func(f *api.Fun) { at(f, 8).Args[1] = 2 }},
		{"a variable that this node binds", func(f *api.Fun) { at(f, 5).Args[0] = 2 }},
		{"a variable that this Match binds", func(f *api.Fun) { at(f, 2).Args[0] = 5 }},
		{"a variable that a later node binds", func(f *api.Fun) { at(f, 1).Args[0] = 4 }},
		{"a variable that only a node binds that is not reached", func(f *api.Fun) { at(f, 3).Var = 8; at(f, 0).Args[0] = 8 }},
		{"an argument that does not exist", func(f *api.Fun) { at(f, 0).Args[0] = 9 }},
		{"a negative argument", func(f *api.Fun) { at(f, 8).Args[1] = -1 }},
		{"an argument too many", func(f *api.Fun) { at(f, 0).Args = []int{2, 99} }},
		{"a field of a hole that is not in scope", func(f *api.Fun) { at(f, 6).Args[0] = 4 }},
		{"an argument of a hole that is not in scope", func(f *api.Fun) { at(f, 6).More[0] = 9 }},
		{"a variable that becomes a parameter", func(f *api.Fun) { f.Params = 3 }},
		{"a parameter that becomes a variable", func(f *api.Fun) { f.Params = 1 }},
	}
}

func TestWrongShapes(t *testing.T) {
	for _, w := range wrongs() {
		t.Run(w.name, func(t *testing.T) {
			f := changed(branching(), w.change)
			checkNormal(t, f, api.Fun{}, api.ErrForm)
			checkMaps(t, f, nil, nil, api.ErrForm)
			if _, _, ok := plainMaps(f); ok {
				t.Errorf("the plain check accepts it")
			}
			f.Extern = true
			if _, e := Normal(f); (e == api.OK) != (0 <= f.Params && f.Params <= len(f.Vars)) {
				t.Errorf("Normal of the extern function is %d", e)
			}
		})
	}
}

// TestRightShapes has what is not examined.
func TestRightShapes(t *testing.T) {
	at := func(f *api.Fun, node int) *api.Node { return &f.Code[node] }
	for _, right := range []wrong{
		{"no change", func(f *api.Fun) {}},
		{"no name", func(f *api.Fun) { f.Name = "" }},
		{"types that do not exist", func(f *api.Fun) { f.Result, f.Vars[0].Type = -4, math.MinInt }},
		{"no number of a constructor, a field or a function", func(f *api.Fun) { at(f, 6).Con, at(f, 6).Num, at(f, 6).Fun = -5, math.MaxInt64, -1 }},
		{"no operation", func(f *api.Fun) {
			*at(f, 5) = api.Node{Op: 10, Var: 7, Args: []int{-1, 8}, Next: -4, Branches: []api.Branch{{Then: 5}}}
		}},
		{"a negative operation", func(f *api.Fun) { at(f, 2).Op = -1 }},
		{"a result too many", func(f *api.Fun) { at(f, 0).Args = []int{2, 2, 7} }},
		{"no result", func(f *api.Fun) { at(f, 0).Args = nil }},
		{"no branches", func(f *api.Fun) { at(f, 2).Branches = nil }},
		{"arguments of a Num", func(f *api.Fun) { at(f, 4).Args = []int{-1, 4, 99} }},
		{"negative numbers in a hole", func(f *api.Fun) { at(f, 6).Args, at(f, 6).More = []int{-3, -1, math.MinInt}, []int{-1, 1, -2} }},
		{"more of other nodes", func(f *api.Fun) {
			at(f, 0).More, at(f, 2).More, at(f, 8).More = []int{99, -1, 4, 6}, []int{-9, 5, 8}, []int{5, 0}
		}},
		{"branches of other nodes", func(f *api.Fun) { at(f, 8).Branches = []api.Branch{{Binds: []int{1, 99}, Then: 2}, {Then: -1}} }},
		{"a Next of a last node", func(f *api.Fun) { at(f, 8).Next, at(f, 0).Next, at(f, 6).Next, at(f, 2).Next = 2, -4, 99, 7 }},
		{"a variable of a node that binds none", func(f *api.Fun) { at(f, 8).Var, at(f, 0).Var, at(f, 1).Var = 1, -4, 99 }},
		{"nodes that are not reached", func(f *api.Fun) {
			at(f, 7).Next = -1
			f.Code = append(f.Code, api.Node{Op: api.Num, Var: 7, Next: 5}, api.Node{Op: api.Num, Var: -7, Next: 2})
		}},
		{"all variables are parameters", func(f *api.Fun) { *f = api.Fun{Params: 9, Vars: f.Vars, Code: []api.Node{{Args: []int{8}}}} }},
		{"many variables", func(f *api.Fun) { f.Vars = append(f.Vars, make([]api.Var, 1000)...); at(f, 0).More = []int{1008} }},
	} {
		t.Run(right.name, func(t *testing.T) {
			checkPlainNumbers(t, changed(branching(), right.change), true)
		})
	}
}

// checkPlainNumbers checks the new numbers of a function against the plain ones, and reports whether it is well-shaped.
func checkPlainNumbers(t *testing.T, f api.Fun, isRight bool) bool {
	t.Helper()
	nodes, vars, ok := plainMaps(f)
	if isRight && !ok {
		t.Fatalf("%s is not well-shaped", brief(f))
	}
	e := map[bool]api.Errno{false: api.ErrForm}[ok]
	checkMaps(t, f, nodes, vars, e)
	normal, _ := plainNormal(f)
	checkNormal(t, f, normal, e)
	if ok {
		checkNormal(t, normal, normal, api.OK)
	}
	return ok
}

// TestDrawnNumbers checks drawn functions, some of which are disturbed at up to three places.
func TestDrawnNumbers(t *testing.T) {
	counts := map[bool]int{}
	for seed := range int64(12000) {
		r := newDrawn(seed)
		f := r.loose()
		checkPlainNumbers(t, f, true)
		for range 3 {
			f = r.disturbed(f)
			counts[checkPlainNumbers(t, f, false)]++
		}
	}
	if counts[true] < 8000 || counts[false] < 8000 {
		t.Errorf("of the disturbed functions, %v are well-shaped", counts)
	}
}

// TestNumbersAreNew checks that functions are neither changed nor kept, and that results are new.
func TestNumbersAreNew(t *testing.T) {
	for _, f := range []api.Fun{branching(), changed(branching(), func(f *api.Fun) { f.Code[0].Op, f.Code[4].More = 99, []int{1, 2} })} {
		f = clone(f)
		before := whole(f)
		first, _ := Normal(f)
		want := fmt.Sprint(first)
		spoil(first)
		second, _ := Normal(f)
		nodes, vars, _ := Maps(f)
		spoil(api.Fun{Code: []api.Node{{Args: nodes, More: vars}}})
		if whole(f) != before || fmt.Sprint(second) != want {
			t.Errorf("the function %s was changed or kept: %s", before, whole(f))
		}
	}
}

// whole returns the text of a function with the spare capacity of its lists.
func whole(f api.Fun) string {
	out := fmt.Sprint(f, f.Vars[:cap(f.Vars)], f.Code[:cap(f.Code)])
	for _, n := range f.Code {
		out += fmt.Sprint(n.Args[:cap(n.Args)], n.More[:cap(n.More)], n.Branches[:cap(n.Branches)])
		for _, b := range n.Branches {
			out += fmt.Sprint(b.Binds[:cap(b.Binds)])
		}
	}
	return out
}

// spoil overwrites all that belongs to a function.
func spoil(f api.Fun) {
	list := func(l []int) {
		for i := range l[:cap(l)] {
			l[:cap(l)][i] = -99
		}
	}
	for i, n := range f.Code[:cap(f.Code)] {
		list(n.Args)
		list(n.More)
		for j, b := range n.Branches[:cap(n.Branches)] {
			list(b.Binds)
			n.Branches[:cap(n.Branches)][j] = api.Branch{Then: -99}
		}
		f.Code[:cap(f.Code)][i] = api.Node{Op: -99}
	}
	clear(f.Vars[:cap(f.Vars)])
}

// TestDeepFunctions has functions with more nodes in a row than the stack has place for calls.
func TestDeepFunctions(t *testing.T) {
	defer debug.SetMaxStack(debug.SetMaxStack(1 << 20))
	const count = 100000
	row := api.Fun{Vars: make([]api.Var, count), Code: make([]api.Node, count+1)}
	first, last := clone(row), clone(row)
	for i := range count {
		row.Code[i] = api.Node{Op: api.Num, Var: i, Next: i + 1}
	}
	for i := range count / 2 {
		next, leaf := api.Branch{Binds: []int{i}, Then: 2 * (i + 1)}, api.Branch{Then: 2*i + 1}
		first.Code[2*i] = api.Node{Op: api.Match, Args: []int{max(i-1, 0)}, Branches: []api.Branch{next, leaf}}
		last.Code[2*i] = api.Node{Op: api.Match, Args: []int{max(i-1, 0)}, Branches: []api.Branch{leaf, next}}
	}
	first.Params, last.Params = 0, 0
	first.Code[0].Args, last.Code[0].Args = nil, nil
	for _, f := range []api.Fun{row, first, last} {
		normal, e := Normal(f)
		if e != api.OK || len(normal.Code) != count+1 {
			t.Fatalf("Normal of many nodes is %d with %d nodes", e, len(normal.Code))
		}
		if again, e := Normal(normal); e != api.OK || !slices.EqualFunc(again.Code, normal.Code, sameNode) {
			t.Fatalf("Normal of the normal form of many nodes is another one, or %d", e)
		}
	}
}

package core

import (
	"strings"
	"testing"

	"cellarer/api"
)

const example = `data List = Nil | Cons Int List
fun append(v0: List, v1: List): List
  take v0
  | Nil
    ret v1
  | Cons v2 v3
    v4 = call append v3 v1
    v5 = Cons v2 v4
    ret v5
`

// exampleProgram is the program of the example, written out.
func exampleProgram() api.Program {
	const list = 2
	return api.Program{
		Datas: []api.Data{{Name: "Bool", Cons: []api.Con{{Name: "False"}, {Name: "True"}}}, {Name: "List", Cons: []api.Con{{Name: "Nil"}, {Name: "Cons", Fields: []api.Type{api.Int, list}}}}},
		Funs: []api.Fun{{Name: "append", Params: 2, Result: list, Vars: []api.Var{{Type: list}, {Type: list}, {Type: api.Int}, {Type: list}, {Type: list}, {Type: list}}, Code: []api.Node{
			{Op: api.Match, Args: []int{0}, Take: true, Branches: []api.Branch{{Then: 1}, {Binds: []int{2, 3}, Then: 2}}},
			{Op: api.Ret, Args: []int{1}},
			{Op: api.Call, Var: 4, Args: []int{3, 1}, Next: 3},
			{Op: api.Make, Var: 5, Con: 1, Args: []int{2, 4}, Next: 4},
			{Op: api.Ret, Args: []int{5}},
		}}},
	}
}

func TestExamples(t *testing.T) {
	p := exampleProgram()
	checkCheck(t, p, api.OK)
	checkText(t, p, example, api.OK)
	checkParse(t, example, p, 0, api.OK)
	before, _, _ := strings.Cut(example, "    v4")
	p.Funs[0].Code = append(p.Funs[0].Code[:2], api.Node{Op: api.Tail, Args: []int{3, 1}})
	p.Funs[0].Vars = p.Funs[0].Vars[:4]
	checkParse(t, before+"    tail append v3 v1\n", p, 0, api.OK)
	checkParseError(t, before+"    tail append v9 v1\n", 0, api.ErrNone)
	checkParseError(t, before+"    tail append3 v3 v1\n", len(before), api.ErrNone)
}

// writtenProgram is a program with all operations, primitive functions and modes, written out, whose nodes have any numbers.
func writtenProgram() api.Program {
	const list, tree = 2, 3
	return api.Program{
		Datas: []api.Data{{Name: "Bool", Cons: []api.Con{{Name: "False"}, {Name: "True"}}}, {Name: "List", Cons: []api.Con{{Name: "Nil"}, {Name: "Cons", Fields: []api.Type{api.Int, list}}}}, {Name: "Tree", Cons: []api.Con{{Name: "Node", Fields: []api.Type{tree, api.Bool, list, tree}}, {Name: "Leaf"}}}},
		Funs: []api.Fun{
			{Name: "ext.f", Params: 3, Result: api.Bool, Vars: []api.Var{{Type: tree, Read: true}, {Type: api.Int}, {Type: list}}, Extern: true},
			{Name: "g", Params: 2, Result: tree, Body: 13, Vars: []api.Var{{Type: tree, Read: true}, {Type: list}, {}, {}, {}, {}, {}, {}, {Type: api.Bool}, {Type: api.Bool}, {Type: api.Bool}, {Type: tree}, {Type: api.Bool}, {Type: tree}, {Type: tree, Read: true}, {Type: api.Bool}, {Type: list, Read: true}, {Type: tree, Read: true}, {Type: list}, {Type: api.Int}, {Type: list}, {Type: tree}}, Code: []api.Node{
				{Op: api.Ret, Args: []int{13}},
				{Op: api.Prim, Var: 3, Num: api.Add, Args: []int{2, 2}, Next: 2},
				{Op: api.Prim, Var: 4, Num: api.Sub, Args: []int{2, 3}, Next: 3},
				{Op: api.Prim, Var: 5, Num: api.Mul, Args: []int{3, 2}, Next: 4},
				{Op: api.Prim, Var: 6, Num: api.Div, Args: []int{2, 5}, Next: 5},
				{Op: api.Prim, Var: 7, Num: api.Mod, Args: []int{6, 2}, Next: 6},
				{Op: api.Prim, Var: 8, Num: api.Less, Args: []int{7, 7}, Next: 7},
				{Op: api.Prim, Var: 9, Num: api.Most, Args: []int{2, 3}, Next: 8},
				{Op: api.Prim, Var: 10, Num: api.Equal, Args: []int{2, 3}, Next: 9},
				{Op: api.Make, Var: 11, Con: 1, Next: 10},
				{Op: api.Call, Var: 12, Fun: 0, Args: []int{0, 2, 1}, Next: 11},
				{Op: api.Copy, Var: 13, Args: []int{0}, Next: 12},
				{Op: api.Match, Args: []int{0}, Branches: []api.Branch{{Binds: []int{14, 15, 16, 17}, Then: 18}, {Then: 14}}},
				{Op: api.Num, Var: 2, Num: -1 << 63, Next: 1},
				{Op: api.Match, Args: []int{8}, Branches: []api.Branch{{Then: 0}, {Then: 19}}},
				{Op: api.Tail, Fun: 1, Args: []int{0, 1}},
				{Op: api.Hole, Con: 0, Num: 3, Args: []int{13, 8, 1, -1}, Fun: 1, More: []int{0, 18}},
				{Op: api.Make, Var: 21, Con: 0, Args: []int{13, 9, 20, 11}, Next: 20},
				{Op: api.Drop, Args: []int{11}, Next: 15},
				{Op: api.Match, Args: []int{1}, Take: true, Branches: []api.Branch{{Then: 21}, {Binds: []int{19, 20}, Then: 17}}},
				{Op: api.Hole, Con: 0, Num: 0, Args: []int{-1, 8, 1, 21}, Fun: 2},
				{Op: api.Make, Var: 18, Con: 0, Next: 16},
			}},
			{Name: "h", Result: tree, Vars: []api.Var{{Type: tree}}, Code: []api.Node{{Op: api.Make, Con: 1, Next: 1}, {Op: api.Ret, Args: []int{0}}}},
		},
	}
}

const written = `data List = Nil | Cons Int List
data Tree = Node Tree Bool List Tree | Leaf
extern ext.f(read v0: Tree, v1: Int, v2: List): Bool
fun g(read v0: Tree, v1: List): Tree
  v2 = -9223372036854775808
  v3 = add v2 v2
  v4 = sub v2 v3
  v5 = mul v3 v2
  v6 = div v2 v5
  v7 = mod v6 v2
  v8 = less v7 v7
  v9 = most v2 v3
  v10 = equal v2 v3
  v11 = Leaf
  v12 = call ext.f v0 v2 v1
  v13 = copy v0
  read v0
  | Node v14 v15 v16 v17
    drop v11
    tail g v0 v1
  | Leaf
    read v8
    | False
      ret v13
    | True
      take v1
      | Nil
        v18 = Nil
        hole Node v13 v8 v1 _ : g v0 v18
      | Cons v19 v20
        v21 = Node v13 v9 v20 v11
        hole Node _ v8 v1 v21 : h
fun h(): Tree
  v0 = Leaf
  ret v0
`

func TestWritten(t *testing.T) {
	p := writtenProgram()
	for fun := range p.Funs {
		checkFun(t, p, fun, 0, api.OK)
	}
	checkText(t, p, written, api.OK)
	checkParse(t, written, preordered(p), 0, api.OK)
	checkText(t, preordered(p), written, api.OK)
}

// TestRejected has programs that Check rejects, which have no texts.
func TestRejected(t *testing.T) {
	p := read(t, others+all)
	for fun, f := range p.Funs {
		for node := range f.Code {
			checkText(t, changedNode(p, fun, node, func(n *api.Node) { n.Op = 99 }), "", api.ErrForm)
		}
		checkText(t, changed(p, func(p *api.Program) { p.Funs[fun].Result = 99 }), "", api.ErrForm)
	}
	checkText(t, changed(p, func(p *api.Program) { p.Datas = nil }), "", api.ErrForm)
	// What is rejected has no text, however long this would be.
	long := matches((api.MaxNodes - 1) / 2)
	long.Funs[0].Code[api.MaxNodes-2].Op = 99
	checkText(t, long, "", api.ErrForm)
}

// TestDrawnTexts has P20.4 with drawn programs: their texts, the programs of these, and renumbered nodes.
func TestDrawnTexts(t *testing.T) {
	r := newDrawn(2)
	table := read(t, "")
	longest := 0
	for range 3000 {
		p := r.program(table)
		text := plainText(p)
		longest = max(longest, len(text))
		checkText(t, p, text, api.OK)
		checkParse(t, text, preordered(p), 0, api.OK)
		if plain, at, e := plainParse(text); e != api.OK {
			t.Fatalf("the plain parser has the error %d at %d: %v", e, at, plain)
		}
		again, _, _ := Parse(text)
		checkText(t, again, text, api.OK)
		for i, f := range p.Funs {
			var vars []int
			for v := range f.Vars {
				vars = append(vars, v)
			}
			if !f.Extern {
				p.Funs[i] = renumbered(f, r.Perm(len(f.Code)), vars)
			}
		}
		checkText(t, p, text, api.OK)
		checkCheck(t, p, api.OK)
		// The numbers of the nodes do not matter for what is not valid, either.
		wrong := r.disturbed(p)
		for i, f := range wrong.Funs {
			if _, e := CheckFun(wrong, i); e == api.OK && !f.Extern {
				q := clone(wrong)
				var vars []int
				for v := range f.Vars {
					vars = append(vars, v)
				}
				q.Funs[i] = renumbered(f, r.Perm(len(f.Code)), vars)
				checkCheck(t, q, plainCheck(wrong))
			}
		}
	}
	if longest < 1500 {
		t.Errorf("the longest text has %d bytes", longest)
	}
}

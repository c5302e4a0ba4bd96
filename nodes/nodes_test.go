package nodes

import (
	"fmt"
	"slices"
	"testing"

	"cellarer/api"
)

// full is a node all of whose fields are set, with spare capacity in its lists.
func full(op int) api.Node {
	spare := func(list ...int) []int { return append(list, 77)[:len(list)] }
	branches := []api.Branch{{Binds: spare(10, 11), Then: 12}, {Then: 13}, {Binds: spare(-5, 10), Then: -6}, {Binds: spare(78), Then: 79}}
	return api.Node{Op: op, Var: 7, Args: spare(3, -1, 4), Con: 5, Num: 6, Fun: 8, More: spare(9, -1), Take: true, Branches: branches[:3], Next: 14}
}

// whole returns the text of a node with the spare capacity of its lists.
func whole(n api.Node) string {
	out := fmt.Sprint(n, n.Args[:cap(n.Args)], n.More[:cap(n.More)], n.Branches[:cap(n.Branches)])
	for _, b := range n.Branches[:cap(n.Branches)] {
		out += fmt.Sprint(b.Binds[:cap(b.Binds)])
	}
	return out
}

func TestWays(t *testing.T) {
	bound, unbound := "[{[7] 14}]", "[{[] 14}]"
	for op, want := range map[int]string{
		api.Ret: "[]", api.Num: bound, api.Prim: bound, api.Make: bound, api.Copy: bound, api.Drop: unbound, api.Call: bound, api.Tail: "[]", api.Hole: "[]",
		api.Match: "[{[10 11] 12} {[] 13} {[-5 10] -6}]", -1: "[]", api.Ops: "[]",
	} {
		if got := fmt.Sprint(Ways(full(op))); got != want {
			t.Errorf("Ways of %d is %s, want %s", op, got, want)
		}
	}
	if ways := Ways(api.Node{Op: api.Match}); len(ways) != 0 {
		t.Errorf("Ways of a Match without branches is %v", ways)
	}
}

// spoil overwrites what belongs to a node, with the spare capacity.
func spoil(n api.Node) {
	for _, list := range [][]int{n.Args, n.More} {
		list = list[:cap(list)]
		for i := range list {
			list[i] = -99
		}
	}
	spoilWays(n.Branches)
}

func spoilWays(ways []api.Branch) {
	ways = ways[:cap(ways)]
	for i := range ways {
		for j := range ways[i].Binds[:cap(ways[i].Binds)] {
			ways[i].Binds[:cap(ways[i].Binds)][j] = -99
		}
		ways[i] = api.Branch{Then: -99}
	}
}

// TestCopies checks that copies are equal to what they are copies of, and share no memory with it.
func TestCopies(t *testing.T) {
	for op := -1; op <= api.Ops; op++ {
		n := full(op)
		before := whole(n)
		c, again := Copy(n), Copy(n)
		if fmt.Sprint(c) != fmt.Sprint(n) {
			t.Errorf("Copy(%v) is %v", n, c)
		}
		spoil(c)
		spoilWays(Ways(n))
		if whole(n) != before || fmt.Sprint(again) != fmt.Sprint(n) {
			t.Errorf("Copy or Ways of %v share memory with it", n)
		}
	}
}

func TestProgramCopies(t *testing.T) {
	source := func() api.Program {
		f := api.Fun{Name: "f", Params: 1, Result: 2, Vars: []api.Var{{Type: 1}, {Type: 2, Read: true}}, Code: []api.Node{full(api.Match), full(api.Ret)}, Body: 1}
		list := api.Data{Name: "List", Cons: []api.Con{{Name: "Nil"}, {Name: "Cons", Fields: []api.Type{0, 1}}}}
		return api.Program{Datas: []api.Data{list, list}, Funs: []api.Fun{f, {Name: "g", Extern: true}}}
	}
	p, want := source(), fmt.Sprint(source())
	c, again, f := CopyProgram(p), CopyProgram(p), CopyFun(p.Funs[0])
	if fmt.Sprint(c) != want || fmt.Sprint(f) != fmt.Sprint(p.Funs[0]) {
		t.Fatalf("the copy is %v, want %s", c, want)
	}
	for _, f := range []api.Fun{c.Funs[0], f} {
		spoil(f.Code[0])
		f.Code[1], f.Vars[0] = api.Node{Op: -9}, api.Var{}
	}
	c.Datas[0].Cons[1].Fields[0] = 9
	c.Datas[0].Cons[0], c.Datas[1], c.Funs[1] = api.Con{}, api.Data{}, api.Fun{}
	if fmt.Sprint(p) != want || fmt.Sprint(again) != want {
		t.Errorf("a copy shares memory with %v", p)
	}
	if c := CopyProgram(api.Program{}); len(c.Datas)+len(c.Funs) != 0 {
		t.Errorf("the copy of nothing is %v", c)
	}
	if !slices.Equal(CopyFun(api.Fun{Vars: make([]api.Var, 3)}).Vars, make([]api.Var, 3)) {
		t.Errorf("the variables are not copied")
	}
}

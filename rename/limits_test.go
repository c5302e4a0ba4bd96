package rename

import (
	"runtime/debug"
	"slices"
	"testing"

	"cellarer/api"
)

// drops returns Drops of v0, the first of which has a number; the last one leads to the node behind them.
func drops(from, count int) []api.Node {
	var code []api.Node
	for i := range count {
		code = append(code, api.Node{Op: api.Drop, Args: []int{0}, Next: from + i + 1})
	}
	return code
}

// calling returns a function that calls another one of v0 behind some Drops, with as many Drops behind the Call, and its call.
func calling(before, after int) api.Fun {
	f := api.Fun{Params: 1, Vars: make([]api.Var, 2), Code: drops(0, before)}
	f.Code = append(f.Code, api.Node{Op: api.Call, Var: 1, Args: []int{0}, Next: before + 1})
	f.Code = append(f.Code, drops(before+1, after)...)
	f.Code = append(f.Code, api.Node{Args: []int{1}})
	return f
}

// splitting returns a function with a Match of v0 that has some branches, each of which returns v0.
func splitting(branches int) api.Fun {
	f := api.Fun{Params: 1, Vars: make([]api.Var, 1), Code: []api.Node{{Op: api.Match, Args: []int{0}}}}
	for i := range branches {
		f.Code[0].Branches = append(f.Code[0].Branches, api.Branch{Then: i + 1})
		f.Code = append(f.Code, api.Node{Args: []int{0}})
	}
	return f
}

// checkSize checks whether the result of a graft has as many nodes and variables as it should, or, with more than MaxNodes or MaxVars, is an error.
func checkSize(t *testing.T, name string, x grafting, nodes, vars int) {
	t.Helper()
	f, origins, e := Graft(x.f, x.node, x.g, x.args, x.to)
	if nodes > api.MaxNodes || vars > api.MaxVars {
		if e != api.ErrMany || !equal(f, api.Fun{}) || len(origins) != 0 {
			t.Errorf("%s: Graft is %d with %d nodes and %d variables, want ErrMany", name, e, len(f.Code), len(f.Vars))
		}
		return
	}
	if e != api.OK || len(f.Code) != nodes || len(f.Vars) != vars || len(origins) != nodes {
		t.Errorf("%s: Graft is %d with %d nodes and %d variables, want %d and %d", name, e, len(f.Code), len(f.Vars), nodes, vars)
	}
	checkNormal(t, f, f, api.OK)
}

// TestMaxNodes has results with as many nodes as there may be, and with one or many more.
func TestMaxNodes(t *testing.T) {
	for _, more := range []int{-1, 0, 1, 2, 3000} {
		size := api.MaxNodes + more
		// size - 1 nodes of f besides the Call, and one of g besides its Ret.
		g := api.Fun{Params: 1, Vars: make([]api.Var, 1), Code: []api.Node{{Op: api.Drop, Args: []int{0}, Next: 1}, {Args: []int{0}}}}
		checkSize(t, "before", grafting{calling(size-2, 0), size - 2, g, []int{0}, 1}, size, 1)
		checkSize(t, "after", grafting{calling(0, size-2), 0, g, []int{0}, 1}, size, 1)
		g.Code = append(drops(0, size-3), api.Node{Args: []int{0}})
		checkSize(t, "in g", grafting{calling(1, 1), 1, g, []int{0}, 1}, size, 1)
		g.Code[size-3] = api.Node{Op: api.Tail}
		checkSize(t, "with a Tail", grafting{calling(1, 0), 1, g, []int{0}, 1}, size, 2)
		// A copy of what follows the Call for each of the branches: the Match, and a Drop and a Ret for each.
		checkSize(t, "copies", grafting{calling(size%2, 1), size % 2, splitting((size - 1) / 2), []int{0}, 1}, 1+size%2+(size-1)/2*2, 1)
		// What is not reached does not count.
		f := calling(size, size)
		f.Body = size
		g.Code = []api.Node{{Op: api.Match, Args: []int{0}}}
		checkSize(t, "not reached", grafting{f, size, g, []int{0}, 1}, 1, 1)
		g.Code = append(drops(2, size), api.Node{Args: []int{0}})
		g.Body = size
		checkSize(t, "not reached in g", grafting{calling(0, 0), 0, g, []int{0}, 1}, 1, 1)
	}
}

// binds returns a function with parameters that binds some variables, by the branch of a Match or by Nums, and returns the last one.
func binds(params, count int, inBranch bool) api.Fun {
	f := api.Fun{Params: params, Vars: make([]api.Var, params+count)}
	var all []int
	for v := params; v < params+count; v++ {
		all = append(all, v)
	}
	if inBranch {
		f.Code = []api.Node{{Op: api.Match, Args: []int{0}, Branches: []api.Branch{{Binds: all, Then: 1}}}}
	} else {
		for i, v := range all {
			f.Code = append(f.Code, api.Node{Op: api.Num, Var: v, Next: i + 1})
		}
	}
	f.Code = append(f.Code, api.Node{Args: []int{max(params+count-1, 0)}})
	return f
}

// TestMaxVars has results with as many variables as there may be, and with one or many more.
func TestMaxVars(t *testing.T) {
	for _, more := range []int{-1, 0, 1, 2, 3000} {
		size := api.MaxVars + more
		caller, callee := calling(0, 0), splitting(1)
		for _, inBranch := range []bool{false, true} {
			g := binds(1, size-1, inBranch)
			checkSize(t, "in g", grafting{caller, 0, g, []int{0}, 1}, len(g.Code), size)
			f := binds(1, size-1, inBranch)
			last := len(f.Code) - 1
			f.Code[last] = api.Node{Op: api.Call, Var: size, Args: []int{0}, Next: last + 1}
			f.Code = append(f.Code, api.Node{Args: []int{size}})
			f.Vars = append(f.Vars, api.Var{})
			checkSize(t, "in f", grafting{f, last, callee, []int{0}, size}, last+2, size)
		}
		// The parameters of f are variables of the result, but not those of g.
		f := calling(0, 0)
		f.Params, f.Vars, f.Code[0].Var, f.Code[1].Args[0] = size, make([]api.Var, size+1), size, size
		checkSize(t, "parameters", grafting{f, 0, callee, []int{0}, size}, 2, size)
		g := binds(size, 0, false)
		checkSize(t, "parameters of g", grafting{caller, 0, g, make([]int, size), 1}, 1, 1)
		// The result of a Tail is a new variable, which the variable of the Call is not.
		g = binds(1, size-2, false)
		g.Code[len(g.Code)-1] = api.Node{Op: api.Tail}
		checkSize(t, "a Tail", grafting{caller, 0, g, []int{0}, 1}, len(g.Code)+1, size)
		// Variables that are not bound do not count.
		f, g = calling(0, 0), splitting(1)
		f.Vars, g.Vars = append(f.Vars, make([]api.Var, size)...), append(g.Vars, make([]api.Var, size)...)
		checkSize(t, "not bound", grafting{f, 0, g, []int{0}, 1}, 2, 1)
	}
	// Each copy of what follows the Call has variables of its own: two for each of 255 branches, besides the parameter.
	f := binds(1, 3, false)
	f.Code[0] = api.Node{Op: api.Call, Var: 1, Next: 1}
	checkSize(t, "copies", grafting{f, 0, splitting(255), []int{0}, 1}, 1+255*3, 511)
	g := splitting(255)
	g.Code[0].Branches[0].Binds = []int{1}
	g.Vars = append(g.Vars, api.Var{})
	checkSize(t, "copies and one more", grafting{f, 0, g, []int{0}, 1}, 1+255*3, 512)
	g.Code[0].Branches[9].Binds = []int{2}
	g.Vars = append(g.Vars, api.Var{})
	checkSize(t, "copies and two more", grafting{f, 0, g, []int{0}, 1}, 1+255*3, 513)
}

// TestHugeGrafts has arguments that are far too large, or large without a large result.
func TestHugeGrafts(t *testing.T) {
	defer debug.SetMaxStack(debug.SetMaxStack(1 << 24))
	const huge = 200000
	caller := calling(0, 0)
	checkSize(t, "nodes of g", grafting{caller, 0, changed(splitting(1), func(g *api.Fun) { g.Code = append(drops(0, huge), api.Node{Args: []int{0}}) }), []int{0}, 1}, huge, 1)
	checkSize(t, "branches of g", grafting{caller, 0, splitting(huge), []int{0}, 1}, huge, 1)
	checkSize(t, "variables of g", grafting{caller, 0, binds(1, huge, true), []int{0}, 1}, 1, huge)
	checkSize(t, "parameters of g", grafting{caller, 0, binds(huge, 0, false), slices.Repeat([]int{0}, huge), 1}, 1, 1)
	end := api.Fun{Code: []api.Node{{Op: api.Match}}}
	f := calling(0, huge)
	checkSize(t, "nodes that are not reached any more", grafting{f, 0, end, nil, 1}, 1, 1)
	f = binds(1, huge, true)
	f.Code = append(f.Code, f.Code[0])
	f.Code[0] = api.Node{Op: api.Call, Var: huge + 1, Next: 2}
	f.Vars = append(f.Vars, api.Var{})
	checkSize(t, "variables that are not bound any more", grafting{f, 0, end, nil, huge + 1}, 1, 1)
}

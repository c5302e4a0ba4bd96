package ownership

import (
	"fmt"
	"slices"
	"testing"

	"cellarer/api"
	"cellarer/core"
)

// long returns a function with owned parameters that are not used, and with some nodes.
func long(name string, params, nodes int) api.Fun {
	f := api.Fun{Name: name, Params: params + 1, Vars: make([]api.Var, params+1)}
	for v := range params {
		f.Vars[v+1].Type = 2
	}
	for i := range nodes - 1 {
		f.Vars = append(f.Vars, api.Var{})
		f.Code = append(f.Code, api.Node{Op: api.Num, Var: params + 1 + i, Next: i + 1})
	}
	f.Code = append(f.Code, api.Node{Args: []int{0}})
	return f
}

// wide returns a function with as many nodes as it needs to be completed to size nodes: a row of reading Matches, the first branches of which end at once.
func wide(t *testing.T, name string, size int) api.Fun {
	t.Helper()
	// A Match of v0, which is a Color, with three branches: two Rets, and what follows. The owned v1 is dropped before each of the Rets: it is used at the end.
	f := api.Fun{Name: name, Params: 2, Vars: []api.Var{{Type: 4}, {Type: 2}}, Result: 4}
	matches := (size - 2) / 5
	for range matches {
		at := len(f.Code)
		f.Code = append(f.Code, api.Node{Op: api.Match, Args: []int{0}, Branches: []api.Branch{{Then: at + 1}, {Then: at + 2}, {Then: at + 3}}}, api.Node{Args: []int{0}}, api.Node{Args: []int{0}})
	}
	for range (size - 2) % 5 {
		v := len(f.Vars)
		f.Vars = append(f.Vars, api.Var{})
		f.Code = append(f.Code, api.Node{Op: api.Num, Var: v, Next: len(f.Code) + 1})
	}
	f.Code = append(f.Code, api.Node{Op: api.Drop, Args: []int{1}, Next: len(f.Code) + 1}, api.Node{Args: []int{0}})
	return f
}

func withFuns(t *testing.T, funs ...api.Fun) api.Program {
	t.Helper()
	p := parse(t, "")
	p.Funs = funs
	if e := core.Check(p); e != api.OK {
		t.Fatalf("the program is not valid: %d", e)
	}
	return p
}

// TestMaxNodes has completed functions with as many nodes as there may be, and with one or more too many.
func TestMaxNodes(t *testing.T) {
	for more := -1; more <= 5; more++ {
		size := api.MaxNodes + more
		p := withFuns(t, long("f", 1, 2), wide(t, "g", size), wide(t, "h", size+1))
		q, fun, node, e := Complete(p)
		switch {
		case more < 0:
			if e != api.OK || len(q.Funs[1].Code) != size || len(q.Funs[2].Code) != size+1 || fun != 0 || node != 0 {
				t.Fatalf("Complete for %d nodes is %d, %d, %d with %d nodes", size, fun, node, e, len(q.Funs[1].Code))
			}
			checkCheckAll(t, q, 0, 0, api.OK)
			if again, _, _, e := Complete(q); e != api.OK || !equal(again, q) {
				t.Fatalf("a completed program of %d nodes is completed to another one, or %d", size, e)
			}
		case more == 0:
			checkComplete(t, p, api.Program{}, 2, 0, api.ErrMany)
		default:
			checkComplete(t, p, api.Program{}, 1, 0, api.ErrMany)
		}
	}
	// A function that has as many nodes as there may be already, with nothing to be dropped, and with something.
	full := wide(t, "f", api.MaxNodes)
	p := withFuns(t, full)
	q, _, _, _ := Complete(p)
	checkComplete(t, q, q, 0, 0, api.OK)
	full = q.Funs[0]
	full.Params, full.Vars = 3, slices.Insert(slices.Clone(full.Vars), 2, api.Var{Type: 2})
	for i := range full.Code {
		if full.Code[i].Op == api.Num {
			full.Code[i].Var++
		}
	}
	checkComplete(t, withFuns(t, long("g", 0, 1), full), api.Program{}, 1, 0, api.ErrMany)
}

// TestManyBehindRules checks that a violation of rules 1 to 4 precedes too many nodes, also in a later function.
func TestManyBehindRules(t *testing.T) {
	bad := api.Fun{Name: "bad", Params: 1, Result: 2, Vars: []api.Var{{Type: 2, Read: true}}, Code: []api.Node{{Args: []int{0}}}}
	unused := api.Fun{Name: "unused", Params: 1, Result: 2, Vars: []api.Var{{Type: 2}, {Type: 2}}, Code: []api.Node{{Op: api.Make, Var: 1, Next: 1}, {Args: []int{1}}}}
	huge := wide(t, "huge", api.MaxNodes+9)
	checkComplete(t, withFuns(t, huge, unused, bad), api.Program{}, 2, 0, api.ErrMode)
	checkComplete(t, withFuns(t, unused, huge), api.Program{}, 1, 0, api.ErrMany)
	checkCheckAll(t, withFuns(t, unused, huge), 0, 1, api.ErrUse)
}

// TestMaxVars has a function with as many variables as there may be, all of which are dropped in each of many branches.
func TestMaxVars(t *testing.T) {
	f := api.Fun{Name: "f", Params: 1, Vars: []api.Var{{}}}
	for v := 1; v < api.MaxVars; v++ {
		f.Vars = append(f.Vars, api.Var{Type: 2})
		f.Code = append(f.Code, api.Node{Op: api.Make, Var: v, Next: v})
	}
	f.Code = append(f.Code, api.Node{Args: []int{0}})
	p := withFuns(t, f)
	checkCheck(t, p, 0, api.MaxVars-1, api.ErrUse)
	q, _, _, e := Complete(p)
	if e != api.OK || len(q.Funs[0].Code) != 2*api.MaxVars-1 {
		t.Fatalf("Complete is %d with %d nodes", e, len(q.Funs[0].Code))
	}
	checkCheckAll(t, q, 0, 0, api.OK)
	var all []int
	for v := 1; v < api.MaxVars; v++ {
		all = append(all, v)
	}
	// All of them live at the last node, which drops them.
	last := len(f.Code) - 1
	f.Code[last] = api.Node{Op: api.Drop, Args: []int{1}, Next: last + 1}
	for v := 2; v < api.MaxVars; v++ {
		f.Code = append(f.Code, api.Node{Op: api.Drop, Args: []int{v}, Next: last + v})
	}
	f.Code = append(f.Code, api.Node{Args: []int{0}})
	p = withFuns(t, f)
	checkLive(t, p, 0, last, all, api.OK)
	checkComplete(t, p, p, 0, 0, api.OK)
	// Many branches, in each of which all of them would have to be dropped.
	f.Code = f.Code[:last]
	f.Code[last-1] = api.Node{Op: api.Make, Var: last, Next: last}
	f.Vars[1] = api.Var{Type: 4}
	for range 1000 {
		at := len(f.Code)
		f.Code = append(f.Code, api.Node{Op: api.Match, Args: []int{1}, Branches: []api.Branch{{Then: at + 1}, {Then: at + 2}, {Then: at + 3}}}, api.Node{Args: []int{0}}, api.Node{Args: []int{0}})
	}
	for v := 2; v < api.MaxVars; v++ {
		f.Code = append(f.Code, api.Node{Op: api.Drop, Args: []int{v}, Next: len(f.Code) + 1})
	}
	f.Code = append(f.Code, api.Node{Args: []int{0}})
	checkComplete(t, withFuns(t, f), api.Program{}, 0, 0, api.ErrMany)
}

// TestMaxFuns has as many functions as there may be, and one more.
func TestMaxFuns(t *testing.T) {
	p := parse(t, "")
	for i := range api.MaxFuns {
		p.Funs = append(p.Funs, long(fmt.Sprint("f", i), 1, 3))
	}
	checkCheckAll(t, p, 0, 2, api.ErrUse)
	checkCheck(t, p, api.MaxFuns-1, 2, api.ErrUse)
	checkComplete(t, p, plainComplete(p), 0, 0, api.OK)
	p.Funs = append(p.Funs, long("g", 1, 3))
	checkCheckAll(t, p, 0, 0, api.ErrForm)
	checkComplete(t, p, api.Program{}, 0, 0, api.ErrForm)
	checkRoots(t, p, 0, nil, api.ErrForm)
}

// TestMaxDepth has as many nodes in a row as there may be, and one more.
func TestMaxDepth(t *testing.T) {
	f := api.Fun{Name: "f", Params: 1, Result: 2, Vars: []api.Var{{Type: 2, Read: true}}}
	for i := range api.MaxNodes {
		f.Code = append(f.Code, api.Node{Op: api.Tail, Args: []int{0}})
		if i > 0 {
			f.Code[i-1] = api.Node{Op: api.Drop, Args: []int{0}, Next: i}
		}
	}
	p := withFuns(t, f)
	checkCheck(t, p, 0, 0, api.ErrMode)
	checkLive(t, p, 0, api.MaxNodes-1, nil, api.OK)
	p.Funs[0].Vars[0].Read = false
	checkCheck(t, p, 0, 1, api.ErrUse)
	checkLive(t, p, 0, api.MaxNodes-1, []int{0}, api.OK)
	p.Funs[0].Code = append(p.Funs[0].Code, api.Node{})
	p.Funs[0].Code[api.MaxNodes-1] = api.Node{Op: api.Drop, Args: []int{0}, Next: api.MaxNodes}
	p.Funs[0].Code[api.MaxNodes] = api.Node{Args: []int{0}}
	checkCheck(t, p, 0, 0, api.ErrForm)
}

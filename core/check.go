package core

import (
	"slices"

	"cellarer/api"
	"cellarer/datas"
	"cellarer/names"
)

// Check returns OK if a program is valid.
func Check(p api.Program) api.Errno {
	if e := datas.Check(p.Datas); e != api.OK {
		return e
	}
	if len(p.Funs) > api.MaxFuns {
		return api.ErrMany
	}
	for fun := range p.Funs {
		if _, e := CheckFun(p, fun); e != api.OK {
			return e
		}
	}
	return api.OK
}

// CheckFun returns OK if a function of a program with a valid table is valid, or else the number of the node that is wrong, or -1.
func CheckFun(p api.Program, fun int) (int, api.Errno) {
	if fun < 0 || fun >= len(p.Funs) {
		return 0, api.ErrRange
	}
	f := p.Funs[fun]
	if e := checkHead(p, fun); e != api.OK {
		return -1, e
	}
	if f.Extern {
		return 0, api.OK
	}
	c := &checker{p: p, f: f, scope: make([]bool, len(f.Vars)), bound: make([]bool, len(f.Vars)), reached: make([]bool, len(f.Code))}
	for v := range f.Params {
		c.scope[v], c.bound[v] = true, true
	}
	c.reached[f.Body] = true
	if node, e := c.visit(f.Body); e != api.OK {
		return node, e
	}
	if node := slices.Index(c.reached, false); node >= 0 {
		return node, api.ErrForm
	}
	if slices.Contains(c.bound, false) {
		return -1, api.ErrForm
	}
	return 0, api.OK
}

// checkHead checks what does not depend on the nodes of a function.
func checkHead(p api.Program, fun int) api.Errno {
	f := p.Funs[fun]
	first, _ := Find(p, f.Name)
	switch {
	case !names.Fun(f.Name):
		return api.ErrForm
	case first < fun:
		return api.ErrTwice
	case f.Params > api.MaxParams || len(f.Vars) > api.MaxVars || len(f.Code) > api.MaxNodes:
		return api.ErrMany
	case f.Params < 0 || f.Params > len(f.Vars):
		return api.ErrForm
	case f.Extern && (len(f.Vars) > f.Params || len(f.Code) > 0 || f.Body != 0):
		return api.ErrForm
	case !f.Extern && (f.Body < 0 || f.Body >= len(f.Code)):
		return api.ErrForm
	case !isType(p, f.Result) || slices.ContainsFunc(f.Vars, func(v api.Var) bool { return !isType(p, v.Type) }):
		return api.ErrType
	case slices.ContainsFunc(f.Vars, func(v api.Var) bool { return v.Read && datas.Flat(p.Datas, v.Type) }):
		return api.ErrMode
	}
	return api.OK
}

// isType reports whether a type exists.
func isType(p api.Program, t api.Type) bool {
	return 0 <= t && int(t) <= len(p.Datas)
}

// checker checks the nodes of a function in preorder. Its slices are indexed by variables and nodes.
type checker struct {
	p       api.Program
	f       api.Fun
	scope   []bool // whether a variable is in scope at the node that is checked
	bound   []bool // whether a variable is a parameter, or was bound by a node
	reached []bool // whether a node is Body, or was a kid
}

// visit checks a node and all that follow it.
func (c *checker) visit(node int) (int, api.Errno) {
	n := c.f.Code[node]
	if e := c.check(n); e != api.OK {
		return node, e
	}
	for _, path := range paths(n) {
		c.setScope(path.Binds, true)
		if node, e := c.visit(path.Then); e != api.OK {
			return node, e
		}
		c.setScope(path.Binds, false)
	}
	return 0, api.OK
}

func (c *checker) setScope(vars []int, inScope bool) {
	for _, v := range vars {
		c.scope[v] = inScope
	}
}

// check checks a node, and notes what it binds and which nodes are its kids.
func (c *checker) check(n api.Node) api.Errno {
	switch {
	case !hasForm(n):
		return api.ErrForm
	case slices.ContainsFunc(Uses(n), func(v int) bool { return !c.isVar(v) || !c.scope[v] }):
		return api.ErrNone
	case !c.inRange(n):
		return api.ErrRange
	case !markAll(c.bound, Binds(n)):
		return api.ErrTwice
	case !c.hasTypes(n):
		return api.ErrType
	case !c.hasModes(n):
		return api.ErrMode
	case !markAll(c.reached, Kids(n)):
		return api.ErrForm
	}
	return api.OK
}

// hasForm reports whether a node has only fields that belong to its operation, and as many Args as this has.
func hasForm(n api.Node) bool {
	if !isOp(n.Op) {
		return false
	}
	f := forms[n.Op]
	return (f.args == several || f.args == len(n.Args)) && (f.binds || n.Var == 0) && (f.con || n.Con == 0) && (f.num || n.Num == 0) && (f.fun || n.Fun == 0) &&
		(f.more || len(n.More) == 0) && (f.take || !n.Take) && (f.branches || len(n.Branches) == 0) && (f.next || n.Next == 0)
}

// isVar reports whether a variable exists.
func (c *checker) isVar(v int) bool {
	return 0 <= v && v < len(c.f.Vars)
}

// inRange reports whether the variables that a node binds, its function and its primitive function exist.
func (c *checker) inRange(n api.Node) bool {
	return !slices.ContainsFunc(Binds(n), func(v int) bool { return !c.isVar(v) }) &&
		(!forms[n.Op].fun || 0 <= n.Fun && n.Fun < len(c.p.Funs)) && (n.Op != api.Prim || 0 <= n.Num && n.Num < api.Prims)
}

// markAll marks indices, and reports whether all of them exist and were not marked.
func markAll(marks []bool, indices []int) bool {
	for _, i := range indices {
		if i < 0 || i >= len(marks) || marks[i] {
			return false
		}
		marks[i] = true
	}
	return true
}

// hasModes reports whether the variables that a node binds are borrowed if they should be.
func (c *checker) hasModes(n api.Node) bool {
	isRead := n.Op == api.Match && !n.Take
	return !slices.ContainsFunc(Binds(n), func(v int) bool {
		return c.f.Vars[v].Read != (isRead && !datas.Flat(c.p.Datas, c.f.Vars[v].Type))
	})
}

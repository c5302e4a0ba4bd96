// Package nodes has what several layers do with nodes of core: the ways on from them, and copies of them.
package nodes

import (
	"slices"

	"cellarer/api"
	"cellarer/core"
)

// Ways returns the ways on from a node: its kids, in order, each with the variables that are bound on the way to it.
func Ways(n api.Node) []api.Branch {
	if n.Op == api.Match {
		return copyBranches(n.Branches)
	}
	var ways []api.Branch
	for _, kid := range core.Kids(n) {
		ways = append(ways, api.Branch{Binds: core.Binds(n), Then: kid})
	}
	return ways
}

// Copy returns a node that shares no memory with another one.
func Copy(n api.Node) api.Node {
	n.Args, n.More, n.Branches = slices.Clone(n.Args), slices.Clone(n.More), copyBranches(n.Branches)
	return n
}

// CopyFun returns a function that shares no memory with another one.
func CopyFun(f api.Fun) api.Fun {
	f.Vars, f.Code = slices.Clone(f.Vars), slices.Clone(f.Code)
	for i, n := range f.Code {
		f.Code[i] = Copy(n)
	}
	return f
}

// CopyProgram returns a program that shares no memory with another one.
func CopyProgram(p api.Program) api.Program {
	p.Datas, p.Funs = slices.Clone(p.Datas), slices.Clone(p.Funs)
	for i := range p.Datas {
		cons := slices.Clone(p.Datas[i].Cons)
		for j := range cons {
			cons[j].Fields = slices.Clone(cons[j].Fields)
		}
		p.Datas[i].Cons = cons
	}
	for i, f := range p.Funs {
		p.Funs[i] = CopyFun(f)
	}
	return p
}

func copyBranches(branches []api.Branch) []api.Branch {
	branches = slices.Clone(branches)
	for i := range branches {
		branches[i].Binds = slices.Clone(branches[i].Binds)
	}
	return branches
}

package ownership

import (
	"slices"

	"cellarer/api"
	"cellarer/core"
	"cellarer/datas"
)

// subject is a function of a valid program, with the roots of its variables.
type subject struct {
	p     api.Program
	f     api.Fun
	roots []int
}

func subjectOf(p api.Program, fun int) subject {
	s := subject{p: p, f: p.Funs[fun]}
	s.roots = make([]int, len(s.f.Vars))
	for v, variable := range s.f.Vars {
		s.roots[v] = v
		if datas.Flat(p.Datas, variable.Type) {
			s.roots[v] = -1
		}
	}
	if !s.f.Extern {
		s.findRoots()
	}
	return s
}

// findRoots finds the roots of the variables that a Match without Take binds. The one of its argument is found before, since nodes are visited before their kids.
func (s subject) findRoots() {
	var visit func(node int)
	visit = func(node int) {
		n := s.f.Code[node]
		if n.Op == api.Match && !n.Take {
			for _, v := range core.Binds(n) {
				if s.roots[v] >= 0 {
					s.roots[v] = s.roots[n.Args[0]]
				}
			}
		}
		for _, kid := range core.Kids(n) {
			visit(kid)
		}
	}
	visit(s.f.Body)
}

// isOwned reports whether a variable is neither flat nor borrowed.
func (s subject) isOwned(v int) bool {
	return s.roots[v] >= 0 && !s.f.Vars[v].Read
}

// uses returns the variables that a node consumes, and those that it reads.
func (s subject) uses(n api.Node) (consumed, read []int) {
	var args []int
	switch {
	case n.Op == api.Ret || n.Op == api.Drop || n.Op == api.Make || n.Op == api.Match && n.Take:
		consumed = n.Args
	case n.Op == api.Copy || n.Op == api.Match:
		read = n.Args
	case n.Op == api.Call || n.Op == api.Tail:
		args = n.Args
	case n.Op == api.Hole:
		consumed, args = n.Args, n.More
	}
	consumed, read = slices.Clone(consumed), slices.Clone(read)
	for param, v := range args {
		if s.p.Funs[n.Fun].Vars[param].Read {
			read = append(read, v)
		} else {
			consumed = append(consumed, v)
		}
	}
	isNone := func(v int) bool { return v < 0 || s.roots[v] < 0 }
	return slices.DeleteFunc(consumed, isNone), slices.DeleteFunc(read, isNone)
}

// rootsOf returns the roots of variables that are not flat.
func (s subject) rootsOf(vars []int) []int {
	var roots []int
	for _, v := range vars {
		roots = append(roots, s.roots[v])
	}
	return roots
}

// path is what is known where a way through a function has come to.
type path struct {
	owned    []int  // the owned variables that are parameters or were bound
	consumed []bool // whether each variable was consumed
}

// start returns the path to the Body.
func (s subject) start() path {
	at := path{consumed: make([]bool, len(s.f.Vars))}
	for v := range s.f.Params {
		if s.isOwned(v) {
			at.owned = append(at.owned, v)
		}
	}
	return at
}

// past returns the path that goes on behind a node. Each way on has a path of its own.
func (s subject) past(at path, n api.Node, way api.Branch) path {
	at.owned, at.consumed = slices.Clone(at.owned), slices.Clone(at.consumed)
	consumed, _ := s.uses(n)
	for _, v := range consumed {
		at.consumed[v] = true
	}
	for _, v := range way.Binds {
		if s.isOwned(v) {
			at.owned = append(at.owned, v)
		}
	}
	return at
}

package ownership

import (
	"slices"

	"cellarer/api"
	"cellarer/datas"
)

// stop is a node with the nodes of its path, itself included, and the variables that were bound before it.
type stop struct {
	node  int
	path  []int
	bound []int
}

// plainWays returns the ways on from a node.
func plainWays(n api.Node) []api.Branch {
	switch n.Op {
	case api.Num, api.Prim, api.Make, api.Copy, api.Call:
		return []api.Branch{{Binds: []int{n.Var}, Then: n.Next}}
	case api.Drop:
		return []api.Branch{{Then: n.Next}}
	}
	return n.Branches
}

// plainStops returns the nodes of a function in preorder.
func plainStops(f api.Fun) []stop {
	if f.Extern {
		return nil
	}
	first := stop{node: f.Body, path: []int{f.Body}}
	for v := range f.Params {
		first.bound = append(first.bound, v)
	}
	var stops []stop
	work := []stop{first}
	for len(work) > 0 {
		s := work[len(work)-1]
		work = work[:len(work)-1]
		stops = append(stops, s)
		for _, w := range slices.Backward(plainWays(f.Code[s.node])) {
			work = append(work, stop{w.Then, append(slices.Clip(s.path), w.Then), append(slices.Clip(s.bound), w.Binds...)})
		}
	}
	return stops
}

// plain answers questions about a function of a program.
type plain struct {
	p api.Program
	f api.Fun
}

func (s plain) flat(v int) bool {
	return datas.Flat(s.p.Datas, s.f.Vars[v].Type)
}

func (s plain) borrowed(v int) bool {
	return !s.flat(v) && s.f.Vars[v].Read
}

func (s plain) owned(v int) bool {
	return !s.flat(v) && !s.f.Vars[v].Read
}

// root returns the root of a variable.
func (s plain) root(v int) int {
	switch {
	case s.flat(v):
		return -1
	case s.owned(v) || v < s.f.Params:
		return v
	}
	for _, n := range s.f.Code {
		for _, b := range n.Branches {
			if slices.Contains(b.Binds, v) {
				return s.root(n.Args[0])
			}
		}
	}
	return -2
}

// args returns the arguments of a node for a function's parameters, those that are borrowed or those that are not.
func (s plain) args(n api.Node, borrowed bool) []int {
	list := map[int][]int{api.Call: n.Args, api.Tail: n.Args, api.Hole: n.More}[n.Op]
	var out []int
	for i, v := range list {
		if s.p.Funs[n.Fun].Vars[i].Read == borrowed {
			out = append(out, v)
		}
	}
	return out
}

func (s plain) withoutFlat(vars []int) []int {
	var out []int
	for _, v := range vars {
		if v != -1 && !s.flat(v) {
			out = append(out, v)
		}
	}
	return out
}

// consumes returns the variables that a node consumes.
func (s plain) consumes(n api.Node) []int {
	var vars []int
	switch n.Op {
	case api.Ret, api.Drop, api.Make, api.Hole:
		vars = n.Args
	case api.Match:
		if n.Take {
			vars = n.Args
		}
	}
	return s.withoutFlat(slices.Concat(vars, s.args(n, false)))
}

// reads returns the variables that a node reads.
func (s plain) reads(n api.Node) []int {
	vars := s.args(n, true)
	if n.Op == api.Copy || n.Op == api.Match && !n.Take {
		vars = n.Args
	}
	return s.withoutFlat(vars)
}

// gone reports whether an earlier node of a path consumes a variable.
func (s plain) gone(at stop, v int) bool {
	for _, node := range at.path[:len(at.path)-1] {
		if slices.Contains(s.consumes(s.f.Code[node]), v) {
			return true
		}
	}
	return false
}

// rule reports whether a node keeps the rule with a number.
func (s plain) rule(number int, at stop) bool {
	n := s.f.Code[at.node]
	consumed, read := s.consumes(n), s.reads(n)
	ends := n.Op == api.Ret || n.Op == api.Tail || n.Op == api.Hole
	switch number {
	case 1:
		return !slices.ContainsFunc(consumed, s.borrowed)
	case 2:
		return !slices.ContainsFunc(slices.Concat(consumed, read), func(v int) bool { return s.gone(at, s.root(v)) })
	case 3:
		for i, v := range consumed {
			if s.owned(v) && (slices.Contains(consumed[:i], v) || slices.ContainsFunc(read, func(w int) bool { return s.root(w) == v })) {
				return false
			}
		}
	case 4:
		for _, v := range s.withoutFlat(s.args(n, true)) {
			if root := s.root(v); n.Op != api.Call && !(root < s.f.Params && s.borrowed(root)) {
				return false
			}
		}
	case 5:
		for _, v := range at.bound {
			if ends && s.owned(v) && !slices.Contains(consumed, v) && !s.gone(at, v) {
				return false
			}
		}
	}
	return true
}

// violation returns the first node that violates one of the first rules, and the number of the rule.
func (s plain) violation(rules int) (int, int) {
	for _, at := range plainStops(s.f) {
		for number := 1; number <= rules; number++ {
			if !s.rule(number, at) {
				return at.node, number
			}
		}
	}
	return 0, 0
}

// errorOf returns the error of a rule.
func errorOf(rule int) api.Errno {
	return []api.Errno{api.OK, api.ErrMode, api.ErrUse, api.ErrUse, api.ErrUse, api.ErrUse}[rule]
}

// live returns the owned variables that are live at a node.
func (s plain) live(node int) []int {
	needed := map[int]bool{}
	var bound []int
	for _, at := range plainStops(s.f) {
		if at.node == node {
			bound = at.bound
		}
		if slices.Contains(at.path, node) {
			n := s.f.Code[at.node]
			for _, v := range slices.Concat(s.consumes(n), s.reads(n)) {
				needed[s.root(v)] = true
			}
		}
	}
	var live []int
	for v := range s.f.Vars {
		if needed[v] && s.owned(v) && slices.Contains(bound, v) {
			live = append(live, v)
		}
	}
	return live
}

// completed returns the function with the Drops that it lacks.
func (s plain) completed() api.Fun {
	f := clone(api.Program{Funs: []api.Fun{s.f}}).Funs[0]
	lead := map[int]int{} // what leads to each node
	dropped := map[int][]int{}
	for _, at := range plainStops(s.f) {
		live := s.live(at.node)
		lead[at.node] = at.node
		var before []int
		for _, node := range at.path {
			before = append(before, dropped[node]...)
		}
		for v := range f.Vars {
			if slices.Contains(at.bound, v) && s.owned(v) && !slices.Contains(live, v) && !s.gone(at, v) && !slices.Contains(before, v) {
				dropped[at.node] = append(dropped[at.node], v)
			}
		}
		for i, v := range dropped[at.node] {
			if i == 0 {
				lead[at.node] = len(f.Code)
			} else {
				f.Code[len(f.Code)-1].Next = len(f.Code)
			}
			f.Code = append(f.Code, api.Node{Op: api.Drop, Args: []int{v}, Next: at.node})
		}
	}
	for node := range s.f.Code {
		n := &f.Code[node]
		if len(plainWays(*n)) > 0 && n.Op != api.Match {
			n.Next = lead[n.Next]
		}
		for i := range n.Branches {
			n.Branches[i].Then = lead[n.Branches[i].Then]
		}
	}
	if !f.Extern {
		f.Body = lead[f.Body]
	}
	return f
}

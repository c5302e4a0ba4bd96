package ownership

import (
	"slices"

	"cellarer/api"
	"cellarer/core"
	"cellarer/nodes"
)

// needs returns, for each node, the roots of the variables that it, or a node below it, consumes or reads.
func (s subject) needs() [][]bool {
	needs := make([][]bool, len(s.f.Code))
	var visit func(node int)
	visit = func(node int) {
		n := s.f.Code[node]
		needed := make([]bool, len(s.f.Vars))
		consumed, read := s.uses(n)
		for _, root := range s.rootsOf(append(consumed, read...)) {
			needed[root] = true
		}
		for _, kid := range core.Kids(n) {
			visit(kid)
			for root, isNeeded := range needs[kid] {
				needed[root] = needed[root] || isNeeded
			}
		}
		needs[node] = needed
	}
	visit(s.f.Body)
	return needs
}

// live returns the owned variables that are live at a node.
func (s subject) live(node int) []int {
	var live []int
	needed := s.needs()[node]
	var visit func(at int, before path)
	visit = func(at int, before path) {
		if at == node {
			live = slices.DeleteFunc(before.owned, func(v int) bool { return !needed[v] })
			return
		}
		n := s.f.Code[at]
		for _, way := range nodes.Ways(n) {
			visit(way.Then, s.past(before, n, way))
		}
	}
	visit(s.f.Body, s.start())
	slices.Sort(live)
	return live
}

// completed returns the function with the Drops that it lacks. Where it has too many nodes, no more are added.
func (s subject) completed() api.Fun {
	f := nodes.CopyFun(s.f)
	if f.Extern {
		return f
	}
	needs := s.needs()
	// complete completes what begins at a node, and returns what leads there: the first of the Drops before the node, or else the node.
	var complete func(node int, at path) int
	complete = func(node int, at path) int {
		if len(f.Code) > api.MaxNodes {
			return node
		}
		drops := slices.DeleteFunc(slices.Clone(at.owned), func(v int) bool { return at.consumed[v] || needs[node][v] })
		slices.Sort(drops)
		first := addDrops(&f, drops, node)
		for _, v := range drops {
			at.consumed[v] = true
		}
		n := s.f.Code[node]
		for i, way := range nodes.Ways(n) {
			to := complete(way.Then, s.past(at, n, way))
			if n.Op == api.Match {
				f.Code[node].Branches[i].Then = to
			} else {
				f.Code[node].Next = to
			}
		}
		return first
	}
	f.Body = complete(s.f.Body, s.start())
	return f
}

// addDrops adds Drops that lead to a node, and returns the first of them, or the node if there are none.
func addDrops(f *api.Fun, drops []int, node int) int {
	first := len(f.Code)
	for i, v := range drops {
		f.Code = append(f.Code, api.Node{Op: api.Drop, Args: []int{v}, Next: first + i + 1})
	}
	if len(drops) == 0 {
		return node
	}
	f.Code[len(f.Code)-1].Next = node
	return first
}

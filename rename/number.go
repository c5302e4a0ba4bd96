package rename

import (
	"math"
	"slices"

	"cellarer/api"
	"cellarer/core"
	"cellarer/nodes"
)

// numbering has the new numbers of a function's nodes and variables, and the scopes of its variables.
type numbering struct {
	order  []int      // the reached nodes in preorder
	bound  []int      // the parameters, and the variables that are bound, in the order of their new numbers
	nodes  []int      // the new number of each node, or -1
	vars   []int      // the new number of each variable, or -1
	scopes []api.Span // where in the order each variable is in scope
}

// step is a way to a node that is due to be visited; or, where isEnd is set, the end of what follows this way.
type step struct {
	way   api.Branch
	isEnd bool
}

// number returns the new numbers of a function, and whether it is well-shaped.
func number(f api.Fun) (numbering, bool) {
	if f.Params < 0 || f.Params > len(f.Vars) {
		return numbering{}, false
	}
	n := numbering{nodes: slices.Repeat([]int{-1}, len(f.Code)), vars: slices.Repeat([]int{-1}, len(f.Vars)), scopes: make([]api.Span, len(f.Vars))}
	for v := range f.Params {
		n.bind(v)
	}
	return n, f.Extern || n.visit(f)
}

// visit numbers what is reached from the Body of a function, and reports whether this is well-shaped.
// The steps are in a list, because a function that is not valid may have more nodes than the stack can hold calls.
func (n *numbering) visit(f api.Fun) bool {
	steps := []step{{way: api.Branch{Then: f.Body}}}
	for len(steps) > 0 {
		s := steps[len(steps)-1]
		steps = steps[:len(steps)-1]
		if s.isEnd {
			for _, v := range s.way.Binds {
				n.scopes[v].To = len(n.order)
			}
			continue
		}
		if !n.enter(f, s.way) {
			return false
		}
		steps = append(steps, step{way: s.way, isEnd: true})
		for _, way := range slices.Backward(nodes.Ways(f.Code[s.way.Then])) {
			steps = append(steps, step{way: way})
		}
	}
	return true
}

// enter numbers the variables that are bound on a way, and the node to which it leads.
func (n *numbering) enter(f api.Fun, way api.Branch) bool {
	for _, v := range way.Binds {
		if !n.bind(v) {
			return false
		}
	}
	node, position := way.Then, len(n.order)
	if node < 0 || node >= len(n.nodes) || n.nodes[node] >= 0 {
		return false
	}
	n.nodes[node] = position
	n.order = append(n.order, node)
	return !slices.ContainsFunc(core.Uses(f.Code[node]), func(v int) bool { return !n.inScope(v, position) })
}

// bind gives a variable its new number, and reports whether it exists and had none.
func (n *numbering) bind(v int) bool {
	if v < 0 || v >= len(n.vars) || n.vars[v] >= 0 {
		return false
	}
	n.vars[v] = len(n.bound)
	n.bound = append(n.bound, v)
	n.scopes[v] = api.Span{From: len(n.order), To: math.MaxInt}
	return true
}

// inScope reports whether a variable exists and is in scope at a position of the order.
func (n *numbering) inScope(v, position int) bool {
	return 0 <= v && v < len(n.scopes) && n.scopes[v].From <= position && position < n.scopes[v].To
}

// use returns the new number of a variable. What is not the number of a variable remains.
func (n *numbering) use(v int) int {
	if 0 <= v && v < len(n.vars) {
		return n.vars[v]
	}
	return v
}

// way returns a way with new numbers.
func (n *numbering) way(w api.Branch) api.Branch {
	for i, v := range w.Binds {
		w.Binds[i] = n.vars[v]
	}
	w.Then = n.nodes[w.Then]
	return w
}

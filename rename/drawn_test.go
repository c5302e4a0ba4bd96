package rename

import (
	"math"
	"math/rand"
	"slices"

	"cellarer/api"
)

// drawn makes functions.
type drawn struct{ *rand.Rand }

func newDrawn(seed int64) drawn {
	return drawn{rand.New(rand.NewSource(seed))}
}

// number returns a number that is not far from the ones of a list, or very far.
func (r drawn) number(most int) int {
	if r.Intn(10) == 0 {
		return []int{math.MinInt, math.MaxInt, 1 << 32, -2}[r.Intn(4)]
	}
	return r.Intn(most+3) - 1
}

func (r drawn) numbers(most, count int) []int {
	var list []int
	for range count {
		list = append(list, r.number(most))
	}
	return list
}

// junk returns a node with any fields.
func (r drawn) junk(nodes, vars int) api.Node {
	n := api.Node{Op: r.number(api.Ops), Var: r.number(vars), Args: r.numbers(vars, r.Intn(3)), Con: r.number(3), Num: int64(r.number(5)), Fun: r.number(3), More: r.numbers(vars, r.Intn(3)), Take: r.Intn(2) == 0, Next: r.number(nodes)}
	for range r.Intn(3) {
		n.Branches = append(n.Branches, api.Branch{Binds: r.numbers(vars, r.Intn(3)), Then: r.number(nodes)})
	}
	return n
}

// loose makes the nodes of a well-shaped function that need not be valid: with any types and fields, and with nodes and variables that are left over.
type loose struct {
	drawn
	f           *api.Fun
	nodes, vars []int // the numbers that are not used yet
}

// loose returns a well-shaped function.
func (r drawn) loose() api.Fun {
	f := api.Fun{Name: []string{"f", "", "F "}[r.Intn(3)], Params: r.Intn(4), Result: api.Type(r.number(4)), Code: make([]api.Node, 1+r.Intn(14))}
	f.Vars = make([]api.Var, f.Params+r.Intn(12))
	for v := range f.Vars {
		f.Vars[v] = api.Var{Type: api.Type(r.number(9)), Read: r.Intn(2) == 0}
	}
	for i := range f.Code {
		f.Code[i] = r.junk(len(f.Code), len(f.Vars))
	}
	l := loose{drawn: r, f: &f, nodes: r.Perm(len(f.Code)), vars: r.Perm(len(f.Vars))}
	l.vars = slices.DeleteFunc(l.vars, func(v int) bool { return v < f.Params })
	var scope []int
	for v := range f.Params {
		scope = append(scope, v)
	}
	f.Body = l.node(scope)
	return f
}

// take returns the first of the numbers that are not used yet.
func take(list *[]int) int {
	first := (*list)[0]
	*list = (*list)[1:]
	return first
}

// node makes a node and what follows it. There is a number for the node.
func (l *loose) node(scope []int) int {
	node := take(&l.nodes)
	n := &l.f.Code[node]
	n.Op = []int{api.Ret, api.Tail, api.Hole, api.Match, -1, api.Ops, math.MaxInt, api.Ret}[l.Intn(8)]
	n.Branches = slices.Delete(n.Branches, 0, len(n.Branches)*l.Intn(2))
	if len(l.nodes) > 0 && l.Intn(6) > 0 {
		n.Op = []int{api.Num, api.Prim, api.Make, api.Copy, api.Drop, api.Call, api.Call, api.Match, api.Match, api.Match}[l.Intn(10)]
	}
	binds := n.Op == api.Num || n.Op == api.Prim || n.Op == api.Make || n.Op == api.Copy || n.Op == api.Call
	if binds && len(l.vars) == 0 {
		n.Op, binds = api.Drop, false
	}
	l.uses(n, scope)
	switch {
	case binds:
		n.Var = take(&l.vars)
		n.Next = l.node(append(slices.Clone(scope), n.Var))
	case n.Op == api.Drop:
		n.Next = l.node(scope)
	case n.Op == api.Match:
		n.Branches = nil
		for range l.Intn(4) {
			l.branch(n, scope)
		}
	}
	return node
}

// branch adds a branch to a node, if there is a number for what it leads to.
func (l *loose) branch(n *api.Node, scope []int) {
	if len(l.nodes) == 0 {
		return
	}
	b := api.Branch{}
	for range l.Intn(3) {
		if len(l.vars) > 0 {
			b.Binds = append(b.Binds, take(&l.vars))
		}
	}
	b.Then = l.node(slices.Concat(scope, b.Binds))
	n.Branches = append(n.Branches, b)
}

// uses gives a node variables that are in scope.
func (l *loose) uses(n *api.Node, scope []int) {
	if n.Op < 0 || n.Op >= api.Ops || n.Op == api.Num {
		return
	}
	n.Args = l.some(scope, l.Intn(4))
	if n.Op == api.Ret && len(scope) > 0 && l.Intn(8) > 0 {
		n.Args = l.some(scope, 1)
	}
	if n.Op == api.Hole {
		n.More = l.some(scope, l.Intn(3))
		for _, list := range []*[]int{&n.Args, &n.More} {
			if l.Intn(2) == 0 {
				*list = slices.Insert(*list, l.Intn(len(*list)+1), -1-l.Intn(2)*l.Intn(9))
			}
		}
	}
}

// some returns variables of a scope, if there are any.
func (l *loose) some(scope []int, count int) []int {
	var list []int
	for range count * min(len(scope), 1) {
		list = append(list, scope[l.Intn(len(scope))])
	}
	return list
}

// disturbed returns a function that is changed at one place.
func (r drawn) disturbed(f api.Fun) api.Fun {
	return changed(f, func(f *api.Fun) {
		n := &f.Code[r.Intn(len(f.Code))]
		junk := r.junk(len(f.Code), len(f.Vars))
		switch r.Intn(12) {
		case 0:
			f.Params = r.number(len(f.Vars) + 1)
		case 1:
			f.Body = r.number(len(f.Code))
		case 2:
			f.Vars = f.Vars[:r.Intn(len(f.Vars)+1)]
		case 3:
			f.Extern = true
		case 4:
			n.Op = junk.Op
		case 5:
			n.Var = junk.Var
		case 6:
			n.Args = junk.Args
		case 7:
			n.More = junk.More
		case 8:
			n.Next = junk.Next
		case 9:
			*n = junk
		default:
			if len(n.Branches) == 0 {
				n.Branches = junk.Branches
				return
			}
			b := &n.Branches[r.Intn(len(n.Branches))]
			if r.Intn(2) == 0 {
				b.Then = r.number(len(f.Code))
			} else {
				b.Binds = append(b.Binds, r.number(len(f.Vars)))
			}
		}
	})
}

package rename

import (
	"maps"
	"slices"

	"cellarer/api"
)

// plainWays returns the ways on from a node.
func plainWays(n api.Node) []api.Branch {
	switch n.Op {
	case api.Num, api.Prim, api.Make, api.Copy, api.Call:
		return []api.Branch{{Binds: []int{n.Var}, Then: n.Next}}
	case api.Drop:
		return []api.Branch{{Then: n.Next}}
	case api.Match:
		return n.Branches
	}
	return nil
}

// plainUses returns the variables that a node uses.
func plainUses(n api.Node) []int {
	switch n.Op {
	case api.Ret, api.Prim, api.Make, api.Copy, api.Drop, api.Call, api.Tail, api.Match:
		return n.Args
	case api.Hole:
		return slices.DeleteFunc(slices.Concat(n.Args, n.More), func(v int) bool { return v < 0 })
	}
	return nil
}

// visit is a node with the ways that lead to it, the one to the Body first.
type visit struct {
	node int
	way  []api.Branch
}

// inScope reports whether a variable is in scope at a node.
func (v visit) inScope(f api.Fun, variable int) bool {
	return 0 <= variable && variable < f.Params || slices.ContainsFunc(v.way, func(w api.Branch) bool { return slices.Contains(w.Binds, variable) })
}

// plainVisits returns what is visited from the Body, or nothing if a function is not well-shaped.
func plainVisits(f api.Fun) ([]visit, bool) {
	if f.Params < 0 || f.Params > len(f.Vars) {
		return nil, false
	}
	if f.Extern {
		return nil, true
	}
	var visits []visit
	seen := map[int]bool{}
	bound := map[int]bool{}
	work := [][]api.Branch{{{Then: f.Body}}}
	for len(work) > 0 {
		way := work[len(work)-1]
		work = work[:len(work)-1]
		last := way[len(way)-1]
		v := visit{node: last.Then, way: way}
		for _, b := range last.Binds {
			if b < f.Params || b >= len(f.Vars) || bound[b] {
				return nil, false
			}
			bound[b] = true
		}
		if v.node < 0 || v.node >= len(f.Code) || seen[v.node] {
			return nil, false
		}
		seen[v.node] = true
		visits = append(visits, v)
		n := f.Code[v.node]
		for _, use := range plainUses(n) {
			if !v.inScope(f, use) {
				return nil, false
			}
		}
		for _, w := range slices.Backward(plainWays(n)) {
			work = append(work, append(slices.Clip(way), w))
		}
	}
	return visits, true
}

// plainMaps returns the new numbers of nodes and variables.
func plainMaps(f api.Fun) ([]int, []int, bool) {
	visits, ok := plainVisits(f)
	if !ok {
		return nil, nil, false
	}
	nodes, vars := make([]int, len(f.Code)), make([]int, len(f.Vars))
	for i := range nodes {
		nodes[i] = slices.IndexFunc(visits, func(v visit) bool { return v.node == i })
	}
	var bound []int
	for v := range f.Params {
		bound = append(bound, v)
	}
	for _, v := range visits {
		bound = append(bound, v.way[len(v.way)-1].Binds...)
	}
	for v := range vars {
		vars[v] = slices.Index(bound, v)
	}
	return nodes, vars, true
}

// plainNormal returns the normal form of a function.
func plainNormal(f api.Fun) (api.Fun, bool) {
	nodes, vars, ok := plainMaps(f)
	if !ok {
		return api.Fun{}, false
	}
	result := clone(f)
	result.Vars, result.Code, result.Body = nil, nil, 0
	for number := range f.Vars {
		if v := slices.Index(vars, number); v >= 0 {
			result.Vars = append(result.Vars, f.Vars[v])
		}
	}
	for number := range f.Code {
		if i := slices.Index(nodes, number); i >= 0 {
			result.Code = append(result.Code, plainNode(f.Code[i], nodes, vars))
		}
	}
	return result, true
}

// plainNode returns a node with new numbers.
func plainNode(n api.Node, nodes, vars []int) api.Node {
	n = cloneNode(n)
	list := func(l []int) {
		for i, v := range l {
			if v >= 0 && v < len(vars) {
				l[i] = vars[v]
			}
		}
	}
	switch n.Op {
	case api.Ret, api.Tail, api.Hole, api.Prim, api.Make, api.Copy, api.Drop, api.Call, api.Match:
		list(n.Args)
		list(n.More)
	}
	switch n.Op {
	case api.Num, api.Prim, api.Make, api.Copy, api.Call:
		n.Var, n.Next = vars[n.Var], nodes[n.Next]
	case api.Drop:
		n.Next = nodes[n.Next]
	case api.Match:
		for i := range n.Branches {
			list(n.Branches[i].Binds)
			n.Branches[i].Then = nodes[n.Branches[i].Then]
		}
	}
	return n
}

// term is code whose nodes contain each other, and whose variables are known by their addresses.
type term struct {
	n      api.Node
	origin int
	uses   []*api.Var // for each number in Args and, of a Hole, in More; nil where it is not that of a variable
	binds  [][]*api.Var
	kids   []*term
}

// known has the variables of a function that are in scope.
type known map[int]*api.Var

// terms makes terms of the code of a function.
type terms struct {
	f       api.Fun
	origin  func(node int) int
	instead func(node int, env known) *term // what stands in the place of a node, or nil
}

func (s terms) term(node int, env known) *term {
	if made := s.instead(node, env); made != nil {
		return made
	}
	n := cloneNode(s.f.Code[node])
	out := &term{n: n, origin: s.origin(node)}
	for _, v := range listed(&n) {
		out.uses = append(out.uses, env[*v])
	}
	for _, w := range plainWays(n) {
		inner := maps.Clone(env)
		var binds []*api.Var
		for _, v := range w.Binds {
			inner[v] = &api.Var{Type: s.f.Vars[v].Type, Read: s.f.Vars[v].Read}
			binds = append(binds, inner[v])
		}
		out.binds = append(out.binds, binds)
		out.kids = append(out.kids, s.term(w.Then, inner))
	}
	return out
}

// listed returns the places of the numbers of a node that are those of variables which it uses, or negative.
func listed(n *api.Node) []*int {
	var out []*int
	if n.Op < 0 || n.Op >= 10 || n.Op == api.Num {
		return out
	}
	for i := range n.Args {
		out = append(out, &n.Args[i])
	}
	if n.Op == api.Hole {
		for i := range n.More {
			out = append(out, &n.More[i])
		}
	}
	return out
}

// plainGraft returns the result of a grafting that is allowed.
func plainGraft(x grafting) (api.Fun, []int) {
	env := known{}
	result := api.Fun{Name: x.f.Name, Params: x.f.Params, Result: x.f.Result}
	numbers := map[*api.Var]int{}
	for v := range x.f.Params {
		env[v] = &api.Var{Type: x.f.Vars[v].Type, Read: x.f.Vars[v].Read}
		numbers[env[v]] = v
		result.Vars = append(result.Vars, *env[v])
	}
	outer := terms{f: x.f, origin: func(node int) int { return node }}
	outer.instead = func(node int, env known) *term {
		if node != x.node {
			return nil
		}
		return plainInner(x, env, func(result *api.Var) *term {
			inner := maps.Clone(env)
			inner[x.to] = result
			return outer.term(x.f.Code[x.node].Next, inner)
		})
	}
	root := outer.term(x.f.Body, env)
	var origins []int
	root.flatten(&result, &origins, numbers)
	return result, origins
}

// plainInner returns the term of the code that stands in the place of the Call.
func plainInner(x grafting, env known, goOn func(result *api.Var) *term) *term {
	params := known{}
	for i, v := range x.args {
		params[i] = env[v]
	}
	inner := terms{f: x.g, origin: func(node int) int { return -node - 1 }}
	inner.instead = func(node int, env known) *term {
		n := cloneNode(x.g.Code[node])
		switch n.Op {
		case api.Ret:
			return goOn(env[n.Args[0]])
		case api.Tail:
			v := &api.Var{Type: x.g.Result}
			out := &term{n: api.Node{Op: api.Call, Fun: n.Fun, Args: n.Args}, origin: -node - 1, binds: [][]*api.Var{{v}}, kids: []*term{goOn(v)}}
			for _, v := range n.Args {
				out.uses = append(out.uses, env[v])
			}
			return out
		}
		return nil
	}
	return inner.term(x.g.Body, params)
}

// flatten adds the nodes of a term to a function, and returns the number of the first one.
func (s *term) flatten(f *api.Fun, origins *[]int, numbers map[*api.Var]int) int {
	number := len(f.Code)
	f.Code, *origins = append(f.Code, api.Node{}), append(*origins, s.origin)
	n := cloneNode(s.n)
	for i, place := range listed(&n) {
		if s.uses[i] != nil {
			*place = numbers[s.uses[i]]
		}
	}
	for i, kid := range s.kids {
		for j, v := range s.binds[i] {
			numbers[v] = len(f.Vars)
			f.Vars = append(f.Vars, *v)
			if n.Op == api.Match {
				n.Branches[i].Binds[j] = numbers[v]
			} else {
				n.Var = numbers[v]
			}
		}
		then := kid.flatten(f, origins, numbers)
		if n.Op == api.Match {
			n.Branches[i].Then = then
		} else {
			n.Next = then
		}
	}
	f.Code[number] = n
	return number
}

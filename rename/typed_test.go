package rename

import (
	"math"
	"slices"

	"cellarer/api"
	"cellarer/datas"
)

// program returns a valid program with some functions, whose nodes and variables have numbers in any order.
func (r drawn) program(p api.Program) api.Program {
	p = cloneProgram(p)
	p.Funs = nil
	names := []string{"f", "g", "main.f", "call", "fun", "v3", "x_1", "v600", "ret.take"}
	for _, name := range names[:1+r.Intn(len(names)-1)] {
		f := api.Fun{Name: name, Params: r.Intn(5), Result: api.Type(r.Intn(len(p.Datas) + 1)), Extern: r.Intn(4) == 0}
		for range f.Params {
			t := api.Type(r.Intn(len(p.Datas) + 1))
			f.Vars = append(f.Vars, api.Var{Type: t, Read: !datas.Flat(p.Datas, t) && r.Intn(2) == 0})
		}
		p.Funs = append(p.Funs, f)
	}
	for i := range p.Funs {
		if !p.Funs[i].Extern {
			b := builder{drawn: r, p: p, f: &p.Funs[i]}
			var scope []int
			for v := range p.Funs[i].Params {
				scope = append(scope, v)
			}
			b.node(scope, r.Intn(20))
			p.Funs[i] = renumbered(p.Funs[i], r.Perm(len(b.f.Code)), slices.Concat(scope, r.others(b.f)))
		}
	}
	return p
}

// others returns new numbers of the variables of a function that are no parameters.
func (r drawn) others(f *api.Fun) []int {
	perm := r.Perm(len(f.Vars) - f.Params)
	for i := range perm {
		perm[i] += f.Params
	}
	return perm
}

// renumbered returns a function whose nodes and variables have other numbers.
func renumbered(f api.Fun, nodes, vars []int) api.Fun {
	code, variables := make([]api.Node, len(f.Code)), make([]api.Var, len(f.Vars))
	for v, to := range vars {
		variables[to] = f.Vars[v]
	}
	list := func(old []int) {
		for i, v := range old {
			if v >= 0 {
				old[i] = vars[v]
			}
		}
	}
	for node, to := range nodes {
		n := cloneNode(f.Code[node])
		list(n.Args)
		list(n.More)
		if n.Op == api.Match {
			for i := range n.Branches {
				list(n.Branches[i].Binds)
				n.Branches[i].Then = nodes[n.Branches[i].Then]
			}
		} else if len(plainWays(n)) > 0 {
			n.Next = nodes[n.Next]
			if n.Op != api.Drop {
				n.Var = vars[n.Var]
			}
		}
		code[to] = n
	}
	f.Code, f.Vars, f.Body = code, variables, nodes[f.Body]
	return f
}

// builder makes the nodes of a function.
type builder struct {
	drawn
	p api.Program
	f *api.Fun
}

// bind returns a new variable.
func (b builder) bind(t api.Type, read bool) int {
	b.f.Vars = append(b.f.Vars, api.Var{Type: t, Read: read})
	return len(b.f.Vars) - 1
}

// some returns variables of types from a scope, and whether there are such ones.
func (b builder) some(scope []int, types []api.Type) ([]int, bool) {
	var vars []int
	for _, t := range types {
		fitting := slices.DeleteFunc(slices.Clone(scope), func(v int) bool { return b.f.Vars[v].Type != t })
		if len(fitting) == 0 {
			return nil, false
		}
		vars = append(vars, fitting[b.Intn(len(fitting))])
	}
	return vars, true
}

// params returns the types of the parameters of a function.
func (b builder) params(fun int) []api.Type {
	var types []api.Type
	for _, v := range b.p.Funs[fun].Vars[:b.p.Funs[fun].Params] {
		types = append(types, v.Type)
	}
	return types
}

// node makes a node and all that follow it, and returns its number. About as many nodes follow as are left.
func (b builder) node(scope []int, left int) int {
	node := len(b.f.Code)
	b.f.Code = append(b.f.Code, api.Node{})
	n := b.last(scope)
	for ok, tries := false, 0; left > 0 && !ok && tries < 5; tries++ {
		var inner api.Node
		if inner, ok = b.inner(scope, left); ok {
			n = inner
		}
	}
	// A node that ends the function needs a variable of its result.
	if n.Op == api.Ret && len(n.Args) == 0 {
		v := b.bind(b.f.Result, false)
		n = api.Node{Op: api.Num, Var: v, Num: b.Int63() >> b.Intn(63)}
		if b.f.Result != api.Int {
			con := slices.IndexFunc(b.p.Datas[b.f.Result-1].Cons, func(c api.Con) bool { return len(c.Fields) == 0 })
			n = api.Node{Op: api.Make, Var: v, Con: con}
		}
		n.Next = b.node(append(slices.Clone(scope), v), 0)
	}
	b.f.Code[node] = n
	return node
}

// last returns a node that ends a function: a Ret without Args if there is nothing else.
func (b builder) last(scope []int) api.Node {
	fun := b.Intn(len(b.p.Funs))
	args, ok := b.some(scope, b.params(fun))
	if ok && b.p.Funs[fun].Result == b.f.Result && b.Intn(2) == 0 {
		return api.Node{Op: api.Tail, Fun: fun, Args: args}
	}
	if ok && b.f.Result != api.Int && b.Intn(2) == 0 {
		cons := b.p.Datas[b.f.Result-1].Cons
		con := b.Intn(len(cons))
		for hole, field := range cons[con].Fields {
			others := slices.Clone(cons[con].Fields)
			others[hole] = b.f.Result // any type will do, if there is a variable
			fields, _ := b.some(scope, slices.Delete(slices.Clone(cons[con].Fields), hole, hole+1))
			if field == b.p.Funs[fun].Result && len(fields) == len(others)-1 {
				return api.Node{Op: api.Hole, Con: con, Num: int64(hole), Args: slices.Insert(fields, hole, -1), Fun: fun, More: args}
			}
		}
	}
	result, _ := b.some(scope, []api.Type{b.f.Result})
	return api.Node{Op: api.Ret, Args: result}
}

// inner returns a node that others follow, if the scope has what it needs.
func (b builder) inner(scope []int, left int) (api.Node, bool) {
	next := func(n api.Node, binds ...int) (api.Node, bool) {
		n.Next = b.node(slices.Concat(scope, binds), left-1)
		return n, true
	}
	t := api.Type(b.Intn(len(b.p.Datas) + 1))
	arg, hasArg := b.some(scope, []api.Type{t})
	isFlat := datas.Flat(b.p.Datas, t)
	switch op := b.Intn(api.Ops); op {
	case api.Num:
		v := b.bind(api.Int, false)
		return next(api.Node{Op: op, Var: v, Num: []int64{math.MinInt64, -1, 0, 1, 10, math.MaxInt64, b.Int63() >> b.Intn(63)}[b.Intn(7)]}, v)
	case api.Prim:
		if args, ok := b.some(scope, []api.Type{api.Int, api.Int}); ok {
			prim := b.Intn(api.Prims)
			v := b.bind(api.Type(prim/5), false)
			return next(api.Node{Op: op, Var: v, Num: int64(prim), Args: args}, v)
		}
	case api.Make, api.Hole, api.Ret:
		if t != api.Int {
			con := b.Intn(len(b.p.Datas[t-1].Cons))
			if args, ok := b.some(scope, b.p.Datas[t-1].Cons[con].Fields); ok {
				v := b.bind(t, false)
				return next(api.Node{Op: api.Make, Var: v, Con: con, Args: args}, v)
			}
		}
	case api.Copy:
		if hasArg && !isFlat {
			v := b.bind(t, false)
			return next(api.Node{Op: op, Var: v, Args: arg}, v)
		}
	case api.Drop:
		if hasArg && !isFlat {
			return next(api.Node{Op: op, Args: arg})
		}
	case api.Call, api.Tail:
		fun := b.Intn(len(b.p.Funs))
		if args, ok := b.some(scope, b.params(fun)); ok {
			v := b.bind(b.p.Funs[fun].Result, false)
			return next(api.Node{Op: api.Call, Var: v, Fun: fun, Args: args}, v)
		}
	case api.Match:
		if hasArg && t != api.Int {
			return b.match(scope, arg, t, left), true
		}
	}
	return api.Node{}, false
}

// match returns a Match with its branches.
func (b builder) match(scope, arg []int, t api.Type, left int) api.Node {
	n := api.Node{Op: api.Match, Args: arg, Take: !datas.Flat(b.p.Datas, t) && b.Intn(2) == 0}
	for _, c := range b.p.Datas[t-1].Cons {
		var binds []int
		for _, field := range c.Fields {
			binds = append(binds, b.bind(field, !n.Take && !datas.Flat(b.p.Datas, field)))
		}
		n.Branches = append(n.Branches, api.Branch{Binds: binds, Then: b.node(slices.Concat(scope, binds), left/len(b.p.Datas[t-1].Cons))})
	}
	return n
}

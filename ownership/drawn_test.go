package ownership

import (
	"math/rand"
	"slices"

	"cellarer/api"
	"cellarer/datas"
)

// drawn makes programs.
type drawn struct{ *rand.Rand }

func newDrawn(seed int64) drawn {
	return drawn{rand.New(rand.NewSource(seed))}
}

// program returns a valid program. The greater strict is, the fewer nodes violate the rules, but for the last one.
func (r drawn) program(p api.Program, strict int) api.Program {
	p = clone(p)
	p.Funs = nil
	for _, name := range []string{"f", "g", "h", "m.f", "m.g"}[:1+r.Intn(5)] {
		f := api.Fun{Name: name, Params: r.Intn(5), Result: api.Type(r.Intn(len(p.Datas) + 1)), Extern: r.Intn(4) == 0}
		for range f.Params {
			t := api.Type(r.Intn(len(p.Datas) + 1))
			f.Vars = append(f.Vars, api.Var{Type: t, Read: !datas.Flat(p.Datas, t) && r.Intn(2) == 0})
		}
		p.Funs = append(p.Funs, f)
	}
	for i := range p.Funs {
		if !p.Funs[i].Extern {
			b := builder{drawn: r, p: p, f: &p.Funs[i], strict: strict}
			var scope []int
			for v := range p.Funs[i].Params {
				scope = append(scope, v)
			}
			b.node(stop{bound: scope}, r.Intn(14))
			p.Funs[i] = r.shuffled(p.Funs[i])
		}
	}
	return p
}

// builder makes the nodes of a function. Those of its branches are complete before the next ones are begun.
type builder struct {
	drawn
	p      api.Program
	f      *api.Fun
	strict int
}

func (b builder) bind(t api.Type, read bool) int {
	b.f.Vars = append(b.f.Vars, api.Var{Type: t, Read: read && !datas.Flat(b.p.Datas, t)})
	return len(b.f.Vars) - 1
}

// some returns variables of types, and whether there are such ones.
func (b builder) some(at stop, types []api.Type) ([]int, bool) {
	var vars []int
	for _, t := range types {
		fitting := slices.DeleteFunc(slices.Clone(at.bound), func(v int) bool { return b.f.Vars[v].Type != t })
		if len(fitting) == 0 {
			return nil, false
		}
		vars = append(vars, fitting[b.Intn(len(fitting))])
	}
	return vars, true
}

func (b builder) params(fun int) []api.Type {
	var types []api.Type
	for _, v := range b.p.Funs[fun].Vars[:b.p.Funs[fun].Params] {
		types = append(types, v.Type)
	}
	return types
}

// node makes a node and all that follow it. About as many nodes follow as are left. The path of a stop ends before the node.
func (b builder) node(at stop, left int) {
	node := len(b.f.Code)
	at = stop{node: node, path: append(slices.Clip(at.path), node), bound: at.bound}
	b.f.Code = append(b.f.Code, api.Node{})
	for try := 0; ; try++ {
		vars := len(b.f.Vars)
		n, ok := b.last(at)
		if left > 0 && try < 10 {
			n, ok = b.inner(at)
		}
		if !ok && try > 15 {
			n = b.constant()
			ok = true
		}
		b.f.Code[node] = n
		if ok && (try > 15 || b.Intn(b.strict+1) == 0 || b.keeps(at)) {
			break
		}
		b.f.Vars = b.f.Vars[:vars]
	}
	for i, w := range plainWays(b.f.Code[node]) {
		then := len(b.f.Code)
		if b.f.Code[node].Op == api.Match {
			b.f.Code[node].Branches[i].Then = then
		} else {
			b.f.Code[node].Next = then
		}
		b.node(stop{path: at.path, bound: append(slices.Clip(at.bound), w.Binds...)}, left-1)
	}
}

// keeps reports whether a node keeps the rules but the last one.
func (b builder) keeps(at stop) bool {
	for rule := 1; rule <= 4; rule++ {
		if !(plain{b.p, *b.f}).rule(rule, at) {
			return false
		}
	}
	return true
}

// constant returns a node that binds a variable of the function's result.
func (b builder) constant() api.Node {
	v := b.bind(b.f.Result, false)
	if b.f.Result == api.Int {
		return api.Node{Op: api.Num, Var: v, Num: 1}
	}
	con := slices.IndexFunc(b.p.Datas[b.f.Result-1].Cons, func(c api.Con) bool { return len(c.Fields) == 0 })
	return api.Node{Op: api.Make, Var: v, Con: con}
}

// last returns a node that ends a function, if there is one.
func (b builder) last(at stop) (api.Node, bool) {
	fun := b.Intn(len(b.p.Funs))
	args, ok := b.some(at, b.params(fun))
	if ok && b.p.Funs[fun].Result == b.f.Result && b.Intn(2) == 0 {
		return api.Node{Op: api.Tail, Fun: fun, Args: args}, true
	}
	if ok && b.f.Result != api.Int && b.Intn(4) > 0 {
		cons := b.p.Datas[b.f.Result-1].Cons
		con := b.Intn(len(cons))
		for hole, field := range cons[con].Fields {
			fields, found := b.some(at, slices.Delete(slices.Clone(cons[con].Fields), hole, hole+1))
			if found && field == b.p.Funs[fun].Result {
				return api.Node{Op: api.Hole, Con: con, Num: int64(hole), Args: slices.Insert(fields, hole, -1), Fun: fun, More: args}, true
			}
		}
	}
	result, ok := b.some(at, []api.Type{b.f.Result})
	return api.Node{Op: api.Ret, Args: result}, ok
}

// inner returns a node that others follow, if the variables that are bound are what it needs.
func (b builder) inner(at stop) (api.Node, bool) {
	t := api.Type(b.Intn(len(b.p.Datas) + 1))
	arg, hasArg := b.some(at, []api.Type{t})
	isFlat := datas.Flat(b.p.Datas, t)
	switch op := b.Intn(api.Ops); op {
	case api.Num:
		return api.Node{Op: op, Var: b.bind(api.Int, false), Num: 7}, true
	case api.Prim:
		args, ok := b.some(at, []api.Type{api.Int, api.Int})
		return api.Node{Op: op, Var: b.bind(api.Int, false), Args: args}, ok
	case api.Make, api.Ret, api.Hole:
		if t == api.Int {
			return api.Node{}, false
		}
		con := b.Intn(len(b.p.Datas[t-1].Cons))
		args, ok := b.some(at, b.p.Datas[t-1].Cons[con].Fields)
		return api.Node{Op: api.Make, Var: b.bind(t, false), Con: con, Args: args}, ok
	case api.Copy:
		return api.Node{Op: op, Var: b.bind(t, false), Args: arg}, hasArg && !isFlat
	case api.Drop:
		return api.Node{Op: op, Args: arg}, hasArg && !isFlat
	case api.Call, api.Tail:
		fun := b.Intn(len(b.p.Funs))
		args, ok := b.some(at, b.params(fun))
		return api.Node{Op: api.Call, Var: b.bind(b.p.Funs[fun].Result, false), Fun: fun, Args: args}, ok
	}
	if !hasArg || t == api.Int {
		return api.Node{}, false
	}
	n := api.Node{Op: api.Match, Args: arg, Take: !isFlat && b.Intn(2) == 0}
	for _, c := range b.p.Datas[t-1].Cons {
		var binds []int
		for _, field := range c.Fields {
			binds = append(binds, b.bind(field, !n.Take))
		}
		n.Branches = append(n.Branches, api.Branch{Binds: binds})
	}
	return n, true
}

// shuffled returns a function whose nodes, and whose variables that are no parameters, have other numbers.
func (r drawn) shuffled(f api.Fun) api.Fun {
	nodes, vars := r.Perm(len(f.Code)), r.Perm(len(f.Vars)-f.Params)
	code, variables := make([]api.Node, len(f.Code)), slices.Clone(f.Vars)
	number := func(v int) int {
		if v < f.Params { // or negative
			return v
		}
		return vars[v-f.Params] + f.Params
	}
	list := func(old []int) []int {
		var out []int
		for _, v := range old {
			out = append(out, number(v))
		}
		return out
	}
	for v, variable := range f.Vars {
		variables[number(v)] = variable
	}
	for node, to := range nodes {
		n := f.Code[node]
		n.Args, n.More, n.Branches = list(n.Args), list(n.More), slices.Clone(n.Branches)
		for i, b := range n.Branches {
			n.Branches[i] = api.Branch{Binds: list(b.Binds), Then: nodes[b.Then]}
		}
		if n.Op != api.Match && len(plainWays(n)) > 0 {
			n.Next = nodes[n.Next]
			if n.Op != api.Drop {
				n.Var = number(n.Var)
			}
		}
		code[to] = n
	}
	f.Code, f.Vars, f.Body = code, variables, nodes[f.Body]
	return f
}

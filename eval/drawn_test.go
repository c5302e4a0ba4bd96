package eval

import (
	"math"
	"math/rand"
	"slices"
	"testing"

	"cellarer/api"
	"cellarer/core"
	"cellarer/datas"
	"cellarer/ownership"
	"cellarer/value"
)

// drawn makes programs that are complete, and their arguments.
type drawn struct{ *rand.Rand }

func newDrawn(seed int64) drawn {
	return drawn{rand.New(rand.NewSource(seed))}
}

// program returns a program with the data types of another one.
func (r drawn) program(t *testing.T, p api.Program) api.Program {
	t.Helper()
	p = api.Program{Datas: p.Datas}
	for _, name := range []string{"f", "g", "h", "m.f", "m.g"}[:1+r.Intn(5)] {
		f := api.Fun{Name: name, Params: r.Intn(api.MaxParams), Result: api.Type(r.Intn(len(p.Datas) + 1)), Extern: r.Intn(12) == 0}
		for range f.Params {
			v := api.Var{Type: api.Type(r.Intn(len(p.Datas) + 1))}
			v.Read = !datas.Flat(p.Datas, v.Type) && r.Intn(2) == 0
			f.Vars = append(f.Vars, v)
		}
		p.Funs = append(p.Funs, f)
	}
	for i := range p.Funs {
		if !p.Funs[i].Extern {
			b := builder{drawn: r, p: p, fun: i, f: &p.Funs[i]}
			b.node(scopeOf(p.Funs[i].Params), r.Intn(14))
		}
	}
	complete, fun, node, e := ownership.Complete(p)
	if e != api.OK {
		t.Fatalf("Complete(%s) has the error %d at %d of %d", brief(p), e, node, fun)
	}
	return complete
}

// args returns arguments of a function.
func (r drawn) args(p api.Program, fun int) []api.Value {
	f := p.Funs[fun]
	var args []api.Value
	for _, v := range f.Vars[:f.Params] {
		args = append(args, r.value(p.Datas, v.Type, r.Intn(6)))
	}
	return args
}

// value returns a value that is about as deep as left says.
func (r drawn) value(d []api.Data, t api.Type, left int) api.Value {
	if t == api.Int {
		return api.Value{Num: r.number()}
	}
	con := r.Intn(len(d[t-1].Cons))
	if left <= 0 {
		con = slices.IndexFunc(d[t-1].Cons, func(c api.Con) bool { return len(c.Fields) == 0 })
	}
	v := api.Value{Con: con}
	for _, field := range d[t-1].Cons[con].Fields {
		v.Args = append(v.Args, r.value(d, field, left-1))
	}
	return v
}

func (r drawn) number() int64 {
	numbers := []int64{0, 1, -1, 2, 3, -7, 1 << 32, math.MaxInt64, math.MinInt64, r.Int63() - r.Int63()}
	return numbers[r.Intn(len(numbers))]
}

// builder makes the nodes of a function, so that no node violates an ownership rule but the last one.
type builder struct {
	drawn
	p   api.Program
	fun int
	f   *api.Fun
}

// scope has the variables that may be used, and the roots of the borrowed ones.
type scope struct {
	vars  []int
	roots map[int]int
}

func scopeOf(params int) scope {
	s := scope{roots: map[int]int{}}
	for v := range params {
		s.vars = append(s.vars, v)
		s.roots[v] = v
	}
	return s
}

// with returns a scope with a further variable.
func (s scope) with(v, root int) scope {
	out := scope{append(slices.Clone(s.vars), v), map[int]int{v: root}}
	for v, root := range s.roots {
		out.roots[v] = root
	}
	return out
}

// without returns a scope without the variables that were consumed, and without those that these are the roots of.
func (s scope) without(consumed []int) scope {
	gone := func(v int) bool { return slices.Contains(consumed, v) || slices.Contains(consumed, s.roots[v]) }
	return scope{slices.DeleteFunc(slices.Clone(s.vars), gone), s.roots}
}

func (b builder) bind(t api.Type, read bool) int {
	b.f.Vars = append(b.f.Vars, api.Var{Type: t, Read: read && !datas.Flat(b.p.Datas, t)})
	return len(b.f.Vars) - 1
}

// some returns variables for parameters, and what is in scope afterwards, if there are some. Those of a last node may not be borrowed from what is local.
func (b builder) some(s scope, params []api.Var, last bool) ([]int, scope, bool) {
	var vars, consumed, read []int
	for _, want := range params {
		fits := func(v int) bool {
			has, isFlat := b.f.Vars[v], datas.Flat(b.p.Datas, want.Type)
			switch {
			case has.Type != want.Type:
				return false
			case isFlat:
				return true
			case want.Read:
				root := s.roots[v]
				return !slices.Contains(consumed, root) && (!last || root < b.f.Params && b.f.Vars[root].Read)
			}
			return !has.Read && !slices.Contains(consumed, v) && !slices.Contains(read, v)
		}
		fitting := slices.DeleteFunc(slices.Clone(s.vars), func(v int) bool { return !fits(v) })
		if len(fitting) == 0 {
			return nil, s, false
		}
		v := fitting[b.Intn(len(fitting))]
		vars = append(vars, v)
		if want.Read {
			read = append(read, s.roots[v])
		} else if !datas.Flat(b.p.Datas, want.Type) {
			consumed = append(consumed, v)
		}
	}
	return vars, s.without(consumed), true
}

func owned(types ...api.Type) []api.Var {
	var out []api.Var
	for _, t := range types {
		out = append(out, api.Var{Type: t})
	}
	return out
}

// callee returns a function and its parameters: mostly one with a smaller number, so that many runs end.
func (b builder) callee() (int, []api.Var) {
	fun := b.Intn(len(b.p.Funs))
	if b.fun > 0 && b.Intn(4) > 0 {
		fun = b.Intn(b.fun)
	}
	return fun, b.p.Funs[fun].Vars[:b.p.Funs[fun].Params]
}

// node makes a node and all that follow it. About as many nodes follow as are left.
func (b builder) node(s scope, left int) {
	node := len(b.f.Code)
	b.f.Code = append(b.f.Code, api.Node{})
	if left <= 0 {
		if n, ok := b.last(s); ok {
			b.f.Code[node] = n
			return
		}
	}
	n, after, ok := api.Node{}, s, false
	for try := 0; left > 0 && !ok && try < 10; try++ {
		n, after, ok = b.inner(s)
	}
	if !ok {
		n, after = b.constant(s)
	}
	b.f.Code[node] = n
	if n.Op != api.Match {
		b.f.Code[node].Next = len(b.f.Code)
		b.node(after, left-1)
		return
	}
	for i, branch := range n.Branches {
		inside := after
		for _, v := range branch.Binds {
			root := v
			if b.f.Vars[v].Read {
				root = s.roots[n.Args[0]]
			}
			inside = inside.with(v, root)
		}
		b.f.Code[node].Branches[i].Then = len(b.f.Code)
		b.node(inside, left-1)
	}
}

// constant returns a node that binds a variable of the function's result.
func (b builder) constant(s scope) (api.Node, scope) {
	v := b.bind(b.f.Result, false)
	if b.f.Result == api.Int {
		return api.Node{Op: api.Num, Var: v, Num: b.number()}, s.with(v, v)
	}
	con := slices.IndexFunc(b.p.Datas[b.f.Result-1].Cons, func(c api.Con) bool { return len(c.Fields) == 0 })
	return api.Node{Op: api.Make, Var: v, Con: con}, s.with(v, v)
}

// last returns a node that ends a function, if there is one.
func (b builder) last(s scope) (api.Node, bool) {
	fun, params := b.callee()
	if args, _, ok := b.some(s, params, true); ok && b.p.Funs[fun].Result == b.f.Result && b.Intn(2) == 0 {
		return api.Node{Op: api.Tail, Fun: fun, Args: args}, true
	}
	for try := 0; b.f.Result != api.Int && try < 6; try++ {
		if n, ok := b.hole(s); ok {
			return n, true
		}
	}
	result, _, ok := b.some(s, owned(b.f.Result), true)
	return api.Node{Op: api.Ret, Args: result}, ok
}

// hole returns a Hole, if what was drawn for it fits.
func (b builder) hole(s scope) (api.Node, bool) {
	fun, params := b.callee()
	cons := b.p.Datas[b.f.Result-1].Cons
	con := b.Intn(len(cons))
	for hole, field := range cons[con].Fields {
		fields := slices.Delete(slices.Clone(cons[con].Fields), hole, hole+1)
		args, _, ok := b.some(s, append(owned(fields...), params...), true)
		if ok && field == b.p.Funs[fun].Result {
			more := slices.Clone(args[len(fields):])
			return api.Node{Op: api.Hole, Con: con, Num: int64(hole), Args: slices.Insert(args[:len(fields)], hole, -1), Fun: fun, More: more}, true
		}
	}
	return api.Node{}, false
}

// inner returns a node that others follow, and what is in scope behind it, if the variables in scope are what it needs.
func (b builder) inner(s scope) (api.Node, scope, bool) {
	t := api.Type(b.Intn(len(b.p.Datas) + 1))
	isFlat := datas.Flat(b.p.Datas, t)
	arg, _, reads := b.some(s, []api.Var{{Type: t, Read: true}}, false)
	own, rest, owns := b.some(s, owned(t), false)
	switch op := b.Intn(api.Ops); op {
	case api.Num:
		v := b.bind(api.Int, false)
		return api.Node{Op: op, Var: v, Num: b.number()}, s.with(v, v), true
	case api.Prim:
		prim, args, ok := b.Intn(api.Prims), []int(nil), false
		if args, _, ok = b.some(s, owned(api.Int, api.Int), false); !ok {
			return api.Node{}, s, false
		}
		v := b.bind(api.Type(prim/api.Less), false)
		return api.Node{Op: op, Var: v, Num: int64(prim), Args: args}, s.with(v, v), true
	case api.Make, api.Ret, api.Hole:
		return b.maker(s, t)
	case api.Copy:
		if !reads || isFlat {
			return api.Node{}, s, false
		}
		v := b.bind(t, false)
		return api.Node{Op: op, Var: v, Args: arg}, s.with(v, v), true
	case api.Drop:
		return api.Node{Op: op, Args: own}, rest, owns && !isFlat
	case api.Call, api.Tail:
		fun, params := b.callee()
		args, rest, ok := b.some(s, params, false)
		if !ok {
			return api.Node{}, s, false
		}
		v := b.bind(b.p.Funs[fun].Result, false)
		return api.Node{Op: api.Call, Var: v, Fun: fun, Args: args}, rest.with(v, v), true
	}
	if owns && !isFlat && b.Intn(3) > 0 {
		return b.match(own, t, true), rest, true
	}
	if !reads || t == api.Int {
		return api.Node{}, s, false
	}
	return b.match(arg, t, false), s, true
}

func (b builder) maker(s scope, t api.Type) (api.Node, scope, bool) {
	if t == api.Int {
		return api.Node{}, s, false
	}
	con := b.Intn(len(b.p.Datas[t-1].Cons))
	args, rest, ok := b.some(s, owned(b.p.Datas[t-1].Cons[con].Fields...), false)
	if !ok {
		return api.Node{}, s, false
	}
	v := b.bind(t, false)
	return api.Node{Op: api.Make, Var: v, Con: con, Args: args}, rest.with(v, v), true
}

func (b builder) match(arg []int, t api.Type, take bool) api.Node {
	n := api.Node{Op: api.Match, Args: arg, Take: take}
	for _, c := range b.p.Datas[t-1].Cons {
		var binds []int
		for _, field := range c.Fields {
			binds = append(binds, b.bind(field, !take))
		}
		n.Branches = append(n.Branches, api.Branch{Binds: binds})
	}
	return n
}

// renumbered returns a program with other numbers of nodes and other names of functions.
func (r drawn) renumbered(p api.Program) api.Program {
	p.Funs = slices.Clone(p.Funs)
	for i := range p.Funs {
		f := &p.Funs[i]
		f.Name = string(rune('r'+i)) + ".x"
		to, code := r.Perm(len(f.Code)), make([]api.Node, len(f.Code))
		for node, n := range f.Code {
			n.Branches = slices.Clone(n.Branches)
			for j := range n.Branches {
				n.Branches[j].Then = to[n.Branches[j].Then]
			}
			if n.Op != api.Match && len(core.Kids(n)) > 0 {
				n.Next = to[n.Next]
			}
			code[to[node]] = n
		}
		if len(code) > 0 {
			f.Code, f.Body = code, to[f.Body]
		}
	}
	return p
}

// TestDrawn compares runs of drawn programs with plain ones, and checks the consequences.
func TestDrawn(t *testing.T) {
	r, base := newDrawn(23), parse(t, "")
	ends := map[api.Errno]int{}
	ops := map[int]int{}
	for range 4000 {
		p := r.program(t, base)
		for fun := range p.Funs {
			args, fuel := r.args(p, fun), r.Intn(200)
			v, profile, e := plainRun(p, fun, args, fuel)
			checkRun(t, p, fun, args, fuel, v, profile, e)
			ends[e]++
			if e == api.OK {
				checkConsequences(t, r, p, fun, args, fuel, v, profile)
			}
		}
		for _, f := range p.Funs {
			for _, n := range f.Code {
				ops[n.Op]++
			}
		}
	}
	if ends[api.OK] < 3000 || ends[api.ErrFuel] < 1000 || ends[api.ErrNone] < 1000 || len(ops) != api.Ops {
		t.Errorf("the ends of the runs are %v, the operations %v", ends, ops)
	}
}

// checkConsequences checks what follows for a run that ends.
func checkConsequences(t *testing.T, r drawn, p api.Program, fun int, args []api.Value, fuel int, v api.Value, profile []int) {
	t.Helper()
	f := p.Funs[fun]
	if e := value.Check(p.Datas, f.Result, v); e != api.OK {
		t.Fatalf("the result %s of %d of %s has the error %d", brief(v), fun, brief(p), e)
	}
	net := plainCells(v)
	for i, arg := range args {
		if !f.Vars[i].Read {
			net -= plainCells(arg)
		}
	}
	if got := profile[len(profile)-1]; got != net {
		t.Fatalf("the cells in use at the end of %d of %s for %s are %d, want %d", fun, brief(p), brief(args), got, net)
	}
	checkRun(t, r.renumbered(p), fun, args, fuel, v, profile, api.OK)
	checkRun(t, p, fun, args, len(profile), v, profile, api.OK)
	checkRun(t, p, fun, args, len(profile)+1+r.Intn(1000), v, profile, api.OK)
	checkError(t, p, fun, args, len(profile)-1, api.ErrFuel)
	checkError(t, p, fun, args, r.Intn(len(profile)), api.ErrFuel)
}

package core

import (
	"slices"

	"cellarer/api"
	"cellarer/datas"
)

// hasTypes reports whether a node satisfies the conditions on types. What it binds and calls exists, and so does what it uses, apart from negative numbers in a Hole.
func (c *checker) hasTypes(n api.Node) bool {
	switch n.Op {
	case api.Ret:
		return c.has(n.Args[0], c.f.Result)
	case api.Num:
		return c.has(n.Var, api.Int)
	case api.Prim:
		return c.haveAll(n.Args, []api.Type{api.Int, api.Int}) && c.has(n.Var, resultOf(n.Num))
	case api.Make:
		con, ok := c.con(c.typeOf(n.Var), n.Con)
		return ok && c.haveAll(n.Args, con.Fields)
	case api.Copy:
		return c.has(n.Var, c.typeOf(n.Args[0])) && !c.isFlat(n.Args[0])
	case api.Drop:
		return !c.isFlat(n.Args[0])
	case api.Call:
		return c.accepts(n.Fun, n.Args) && c.has(n.Var, c.p.Funs[n.Fun].Result)
	case api.Tail:
		return c.accepts(n.Fun, n.Args) && c.f.Result == c.p.Funs[n.Fun].Result
	case api.Hole:
		return c.hasHoleTypes(n)
	}
	return c.hasMatchTypes(n)
}

// hasHoleTypes reports whether a Hole satisfies the conditions on types.
func (c *checker) hasHoleTypes(n api.Node) bool {
	con, ok := c.con(c.f.Result, n.Con)
	if !ok || n.Num < 0 || n.Num >= int64(len(con.Fields)) || len(n.Args) != len(con.Fields) {
		return false
	}
	for i, field := range con.Fields {
		if int64(i) == n.Num {
			if n.Args[i] != -1 || c.p.Funs[n.Fun].Result != field {
				return false
			}
		} else if !c.has(n.Args[i], field) {
			return false
		}
	}
	return c.accepts(n.Fun, n.More)
}

// hasMatchTypes reports whether a Match satisfies the conditions on types.
func (c *checker) hasMatchTypes(n api.Node) bool {
	t := c.typeOf(n.Args[0])
	return t != api.Int && !(n.Take && c.isFlat(n.Args[0])) && slices.EqualFunc(n.Branches, c.p.Datas[t-1].Cons, func(b api.Branch, con api.Con) bool {
		return c.haveAll(b.Binds, con.Fields)
	})
}

// resultOf returns the type of the results of a primitive function.
func resultOf(prim int64) api.Type {
	if prim >= api.Less {
		return api.Bool
	}
	return api.Int
}

// con returns a constructor of a type, which must be a data type.
func (c *checker) con(t api.Type, con int) (api.Con, bool) {
	if t == api.Int || con < 0 || con >= len(c.p.Datas[t-1].Cons) {
		return api.Con{}, false
	}
	return c.p.Datas[t-1].Cons[con], true
}

func (c *checker) typeOf(v int) api.Type {
	return c.f.Vars[v].Type
}

func (c *checker) isFlat(v int) bool {
	return datas.Flat(c.p.Datas, c.typeOf(v))
}

// has reports whether a number is that of a variable with a type.
func (c *checker) has(v int, t api.Type) bool {
	return c.isVar(v) && c.typeOf(v) == t
}

// haveAll reports whether variables have types.
func (c *checker) haveAll(vars []int, types []api.Type) bool {
	return slices.EqualFunc(vars, types, c.has)
}

// accepts reports whether arguments have the types of the parameters of a function, which need not be valid itself.
func (c *checker) accepts(fun int, args []int) bool {
	f := c.p.Funs[fun]
	return len(args) == f.Params && f.Params <= len(f.Vars) && slices.EqualFunc(args, f.Vars[:f.Params], func(v int, param api.Var) bool {
		return c.has(v, param.Type)
	})
}

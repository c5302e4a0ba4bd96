package eval

import (
	"math/big"

	"cellarer/api"
	"cellarer/ownership"
	"cellarer/value"
)

// plain evaluates the functions of a program as the definitions say, each call within the one that it is the result of. An error is a panic.
type plain struct {
	p       api.Program
	fuel    int
	used    int
	profile []int
}

// plainRun returns what Run and Profile have to return.
func plainRun(p api.Program, fun int, args []api.Value, fuel int) (v api.Value, profile []int, e api.Errno) {
	if e := plainCheck(p, fun, args, fuel); e != api.OK {
		return api.Value{}, nil, e
	}
	defer func() {
		if found, ok := recover().(api.Errno); ok {
			v, profile, e = api.Value{}, nil, found
		}
	}()
	x := &plain{p: p, fuel: fuel}
	v = x.function(fun, args, 0)
	return v, x.profile, api.OK
}

func plainCheck(p api.Program, fun int, args []api.Value, fuel int) api.Errno {
	if _, _, e := ownership.CheckAll(p); e != api.OK {
		return e
	}
	switch {
	case fun < 0, fun >= len(p.Funs), fuel < 0, fuel > api.MaxFuel:
		return api.ErrRange
	case len(args) != p.Funs[fun].Params:
		return api.ErrArg
	}
	for i := range args {
		if e := value.Check(p.Datas, p.Funs[fun].Vars[i].Type, args[i]); e != api.OK {
			return e
		}
	}
	return api.OK
}

// step takes a step that changes the number of cells in use.
func (x *plain) step(by int) {
	if len(x.profile) == x.fuel {
		panic(api.ErrFuel)
	}
	x.used += by
	if x.used > api.MaxCells {
		panic(api.ErrCells)
	}
	x.profile = append(x.profile, x.used)
}

// plainCells returns the number of parts with fields.
func plainCells(v api.Value) int {
	cells := min(len(v.Args), 1)
	for _, arg := range v.Args {
		cells += plainCells(arg)
	}
	return cells
}

// function returns the result of a function. Frame is the number of frames that its result gives back.
func (x *plain) function(fun int, args []api.Value, frame int) api.Value {
	if x.p.Funs[fun].Extern {
		panic(api.ErrNone)
	}
	vars := map[int]api.Value{}
	for i, v := range args {
		vars[i] = v
	}
	return x.node(x.p.Funs[fun], x.p.Funs[fun].Body, vars, frame)
}

func (x *plain) node(f api.Fun, node int, vars map[int]api.Value, frame int) api.Value {
	n := f.Code[node]
	all := func(list []int) []api.Value {
		var out []api.Value
		for _, v := range list {
			out = append(out, vars[v]) // the zero value in the place of a hole
		}
		return out
	}
	args := all(n.Args)
	switch n.Op {
	case api.Ret:
		x.step(-frame)
		return args[0]
	case api.Tail:
		x.step(0)
		return x.function(n.Fun, args, frame)
	case api.Hole:
		x.step(min(len(args), 1))
		args[n.Num] = x.function(n.Fun, all(n.More), frame)
		return api.Value{Con: n.Con, Args: args}
	case api.Match:
		if n.Take {
			x.step(-min(len(args[0].Args), 1))
		} else {
			x.step(0)
		}
		b := n.Branches[args[0].Con]
		for i, to := range b.Binds {
			vars[to] = args[0].Args[i]
		}
		return x.node(f, b.Then, vars, frame)
	}
	x.inner(n, args, vars)
	return x.node(f, n.Next, vars, frame)
}

// inner evaluates a node that has one Next.
func (x *plain) inner(n api.Node, args []api.Value, vars map[int]api.Value) {
	switch n.Op {
	case api.Num:
		x.step(0)
		vars[n.Var] = api.Value{Num: n.Num}
	case api.Prim:
		x.step(0)
		vars[n.Var] = plainPrim(n.Num, args[0].Num, args[1].Num)
	case api.Make:
		x.step(min(len(args), 1))
		vars[n.Var] = api.Value{Con: n.Con, Args: args}
	case api.Copy:
		x.step(plainCells(args[0]))
		vars[n.Var] = args[0]
	case api.Drop:
		x.step(-plainCells(args[0]))
	case api.Call:
		x.step(1)
		vars[n.Var] = x.function(n.Fun, args, 1)
	}
}

// plainPrim calculates with integers of any size.
func plainPrim(op, a, b int64) api.Value {
	x, y, z := big.NewInt(a), big.NewInt(b), new(big.Int)
	switch op {
	case api.Add:
		z.Add(x, y)
	case api.Sub:
		z.Sub(x, y)
	case api.Mul:
		z.Mul(x, y)
	case api.Div, api.Mod:
		rest := x
		if b != 0 {
			z.Quo(x, y)
			rest = new(big.Int).Rem(x, y)
		}
		if op == api.Mod {
			z = rest
		}
	case api.Less:
		return plainBool(x.Cmp(y) < 0)
	case api.Most:
		return plainBool(x.Cmp(y) <= 0)
	case api.Equal:
		return plainBool(x.Cmp(y) == 0)
	}
	// The low 64 bits of two's complement.
	word := new(big.Int).Lsh(big.NewInt(1), 64)
	return api.Value{Num: int64(z.Mod(z, word).Uint64())}
}

func plainBool(b bool) api.Value {
	if b {
		return api.Value{Con: 1}
	}
	return api.Value{}
}

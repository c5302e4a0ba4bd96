package rename

import (
	"slices"

	"cellarer/api"
)

// Graft puts the code of g in the place of a Call of f, and returns the normal form of the result with the origins of its nodes.
func Graft(f api.Fun, node int, g api.Fun, args []int, to int) (api.Fun, []int, api.Errno) {
	inF, okF := number(f)
	inG, okG := number(g)
	switch {
	case !okF || !okG || f.Extern || g.Extern:
		return api.Fun{}, nil, api.ErrForm
	case node < 0 || node >= len(inF.nodes) || inF.nodes[node] < 0:
		return api.Fun{}, nil, api.ErrRange
	case f.Code[node].Op != api.Call || f.Code[node].Var != to || len(args) != g.Params:
		return api.Fun{}, nil, api.ErrArg
	case slices.ContainsFunc(args, func(v int) bool { return !inF.inScope(v, inF.nodes[node]) }):
		return api.Fun{}, nil, api.ErrArg
	case slices.ContainsFunc(inG.order, func(k int) bool { return !canContinue(g.Code[k]) }):
		return api.Fun{}, nil, api.ErrArg
	case f.Params > api.MaxVars:
		return api.Fun{}, nil, api.ErrMany
	}
	m := &maker{fun: api.Fun{Name: f.Name, Params: f.Params, Result: f.Result, Vars: slices.Clone(f.Vars[:f.Params])}}
	m.outer(f, node, g, args)
	if m.isFull {
		return api.Fun{}, nil, api.ErrMany
	}
	return m.fun, m.origins, api.OK
}

// canContinue reports whether a node of a function that is grafted leaves a single variable to what follows the Call, if it is a last one.
func canContinue(n api.Node) bool {
	return n.Op != api.Hole && (n.Op != api.Ret || len(n.Args) == 1)
}

// environment has the variables of the result that stand for those of a function.
type environment struct {
	params []int // those that stand for the parameters
	bound  []binding
}

// binding is a variable with the one that stands for it.
type binding struct{ old, new int }

// of returns what stands for a variable. What is not the number of a variable in scope remains.
func (env environment) of(v int) int {
	if 0 <= v && v < len(env.params) {
		return env.params[v]
	}
	if i := slices.IndexFunc(env.bound, func(b binding) bool { return b.old == v }); i >= 0 {
		return env.bound[i].new
	}
	return v
}

// with returns an environment in which another variable stands for v.
func (env environment) with(v, by int) environment {
	return environment{env.params, append(slices.Clone(env.bound), binding{v, by})}
}

// maker makes a function. Its nodes are added in preorder and its variables in the order in which they are bound, so that it is in normal form.
type maker struct {
	fun     api.Fun
	origins []int
	isFull  bool // whether there are too many nodes or variables, so that no more are added
}

// outer adds the code of f, in which that of g takes the place of a Call.
func (m *maker) outer(f api.Fun, node int, g api.Fun, args []int) {
	call := f.Code[node]
	var add func(at int, env environment) int
	add = func(at int, env environment) int {
		if at != node {
			return m.add(f.Code[at], at, f.Vars, env, add)
		}
		params := slices.Clone(args)
		for i, v := range params {
			params[i] = env.of(v)
		}
		return m.inner(g, params, func(result int) int { return add(call.Next, env.with(call.Var, result)) })
	}
	params := make([]int, f.Params)
	for v := range params {
		params[v] = v
	}
	add(f.Body, environment{params: params})
}

// inner adds the code of g with variables that take the place of its parameters. Where it has a result, goOn adds what follows.
func (m *maker) inner(g api.Fun, params []int, goOn func(result int) int) int {
	result := len(g.Vars)
	vars := append(slices.Clone(g.Vars), api.Var{Type: g.Result})
	var add func(at int, env environment) int
	add = func(at int, env environment) int {
		n, origin := g.Code[at], -1-at
		switch n.Op {
		case api.Ret:
			return goOn(env.of(n.Args[0]))
		case api.Tail:
			call := api.Node{Op: api.Call, Var: result, Args: n.Args, Fun: n.Fun}
			return m.add(call, origin, vars, env, func(_ int, env environment) int { return goOn(env.of(result)) })
		}
		return m.add(n, origin, vars, env, add)
	}
	return add(g.Body, environment{params: params})
}

// add adds a copy of a node, and with follow what its ways on lead to. It returns the number of the copy.
func (m *maker) add(n api.Node, origin int, vars []api.Var, env environment, follow func(kid int, env environment) int) int {
	m.isFull = m.isFull || len(m.fun.Code) == api.MaxNodes
	if m.isFull {
		return 0
	}
	number := len(m.fun.Code)
	m.fun.Code, m.origins = append(m.fun.Code, api.Node{}), append(m.origins, origin)
	n = renamed(n, env.of, func(w api.Branch) api.Branch {
		env := env
		for i, v := range w.Binds {
			if m.isFull = m.isFull || len(m.fun.Vars) == api.MaxVars; m.isFull {
				return w
			}
			w.Binds[i] = len(m.fun.Vars)
			m.fun.Vars = append(m.fun.Vars, vars[v])
			env = env.with(v, w.Binds[i])
		}
		w.Then = follow(w.Then, env)
		return w
	})
	m.fun.Code[number] = n
	return number
}

package core

import (
	"slices"
	"strconv"
	"strings"

	"cellarer/api"
	"cellarer/datas"
	"cellarer/names"
)

// data reads the line of a data type.
func (p *parser) data(line string) {
	name, cons, ok := strings.Cut(strings.TrimPrefix(line, "data "), " = ")
	p.require(ok && names.Upper(name) && name != "Int")
	data := api.Data{Name: name}
	for text := range strings.SplitSeq(cons, " | ") {
		words := strings.Split(text, " ")
		p.require(names.Upper(words[0]))
		c := api.Con{Name: words[0]}
		for _, word := range words[1:] {
			c.Fields = append(c.Fields, p.typeOf(word))
		}
		data.Cons = append(data.Cons, c)
	}
	p.program.Datas = append(p.program.Datas, data)
}

// fun reads the line of a function, and those of its code.
func (p *parser) fun(line string) {
	kind, rest, _ := strings.Cut(line, " ")
	p.require(kind == "fun" || kind == "extern")
	name, rest, _ := strings.Cut(rest, "(")
	params, result, ok := strings.Cut(rest, "): ")
	p.require(ok && names.Fun(name))
	f := api.Fun{Name: name, Extern: kind == "extern"}
	p.vars, p.code = map[int]api.Var{}, nil
	if params != "" {
		for param := range strings.SplitSeq(params, ", ") {
			p.param(f.Params, param)
			f.Params++
		}
	}
	f.Result = p.typeOf(result)
	if !f.Extern {
		p.nodes("  ")
	}
	f.Code = p.code
	for v, bound := range p.vars {
		f.Vars = append(f.Vars, make([]api.Var, max(v+1-len(f.Vars), 0))...)
		f.Vars[v] = bound
	}
	p.program.Funs = append(p.program.Funs, f)
}

// param reads a parameter.
func (p *parser) param(number int, text string) {
	text, read := strings.CutPrefix(text, "read ")
	name, t, ok := strings.Cut(text, ": ")
	p.require(ok && p.variable(name) == number)
	p.vars[number] = api.Var{Type: p.typeOf(t), Read: read}
}

// nodes reads the lines of a node and of all that follow it.
func (p *parser) nodes(indent string) {
	for isDue := true; isDue; {
		n := p.node(p.line(indent))
		number := len(p.code)
		if isDue = forms[n.Op].next; isDue {
			n.Next = number + 1
		}
		p.code = append(p.code, n)
		if n.Op == api.Match {
			branches := p.branches(indent, n.Take)
			p.code[number].Branches = branches
		}
	}
}

// branches reads the lines of the branches of a Match, and of what follows them.
func (p *parser) branches(indent string, take bool) []api.Branch {
	var branches []api.Branch
	for len(branches) == 0 || p.begins(indent+"|") {
		words := strings.Split(p.line(indent), " ")
		p.require(len(words) >= 2 && words[0] == "|")
		place := p.con(words[1])
		b := api.Branch{Binds: p.variables(words[2:]), Then: len(p.code)}
		for i, v := range b.Binds {
			t := p.field(place, i)
			p.vars[v] = api.Var{Type: t, Read: !take && !datas.Flat(p.program.Datas, t)}
		}
		p.nodes(indent + "  ")
		branches = append(branches, b)
	}
	return branches
}

// field returns the type of a field of a constructor. It is Int if there is no such field, or if constructors are not known yet.
func (p *parser) field(con api.Place, field int) api.Type {
	if con.Type == api.Int {
		return api.Int
	}
	if fields := p.program.Datas[con.Type-1].Cons[con.Con].Fields; field < len(fields) {
		return fields[field]
	}
	return api.Int
}

// node reads the line of a node.
func (p *parser) node(line string) api.Node {
	words := strings.Split(line, " ")
	switch words[0] {
	case "ret":
		return p.ret(words[1:])
	case "drop":
		return p.drop(words[1:])
	case "tail":
		return p.tail(words[1:])
	case "hole":
		return p.hole(words[1:])
	case "take", "read":
		return p.match(words[0] == "take", words[1:])
	}
	return p.binding(words)
}

func (p *parser) ret(words []string) api.Node {
	p.require(len(words) == 1)
	return api.Node{Op: api.Ret, Args: p.variables(words)}
}

func (p *parser) drop(words []string) api.Node {
	p.require(len(words) == 1)
	return api.Node{Op: api.Drop, Args: p.variables(words)}
}

func (p *parser) tail(words []string) api.Node {
	fun, _, args := p.call(words)
	return api.Node{Op: api.Tail, Fun: fun, Args: args}
}

func (p *parser) hole(words []string) api.Node {
	colon := slices.Index(words, ":")
	p.require(colon >= 1)
	fields := words[1:colon]
	hole := slices.Index(fields, "_")
	p.require(hole >= 0)
	fun, _, more := p.call(words[colon+1:])
	args := slices.Concat(p.variables(fields[:hole]), []int{-1}, p.variables(fields[hole+1:]))
	return api.Node{Op: api.Hole, Con: p.con(words[0]).Con, Num: int64(hole), Args: args, Fun: fun, More: more}
}

func (p *parser) match(take bool, words []string) api.Node {
	args, _ := p.earlier(words)
	return api.Node{Op: api.Match, Take: take, Args: args}
}

// binding reads the line of a node that binds a variable.
func (p *parser) binding(words []string) api.Node {
	p.require(len(words) >= 3 && words[1] == "=")
	v := p.variable(words[0])
	n, t := p.operation(words[2], words[3:])
	n.Var = v
	p.vars[v] = api.Var{Type: t}
	return n
}

// operation reads what a variable is bound to, and returns a node without the variable, and the type of the variable.
func (p *parser) operation(head string, words []string) (api.Node, api.Type) {
	for prim, name := range prims {
		if name == head {
			p.require(len(words) == 2)
			return api.Node{Op: api.Prim, Num: int64(prim), Args: p.variables(words)}, resultOf(int64(prim))
		}
	}
	switch {
	case head == "copy":
		args, t := p.earlier(words)
		return api.Node{Op: api.Copy, Args: args}, t
	case head == "call":
		fun, t, args := p.call(words)
		return api.Node{Op: api.Call, Fun: fun, Args: args}, t
	case names.Upper(head):
		place := p.con(head)
		return api.Node{Op: api.Make, Con: place.Con, Args: p.variables(words)}, place.Type
	}
	num, _ := strconv.ParseInt(head, 10, 64)
	p.require(len(words) == 0 && head == strconv.FormatInt(num, 10))
	return api.Node{Op: api.Num, Num: num}, api.Int
}

// call reads the name of a function and its arguments, and returns the function, the type of its result, and the arguments.
func (p *parser) call(words []string) (int, api.Type, []int) {
	p.require(len(words) >= 1)
	fun, t := p.function(words[0])
	return fun, t, p.variables(words[1:])
}

package eval

import (
	"slices"

	"cellarer/api"
	"cellarer/datas"
)

// machine is a run of a program whose functions have been checked.
type machine struct {
	p      api.Program
	used   int     // the cells in use
	now    frame   // the function that is being evaluated
	frames []frame // those that wait for the results of their calls, the last one at the end
	holes  []hole  // the constructors that wait for the results of functions, the last one at the end
	result datum   // once the machine is done
	done   bool
}

// frame is a function on its way: the values of its variables, and its next node, or the Call that it waits for.
type frame struct {
	fun, node int
	vars      []datum
	holes     int // the number of holes when it was called
}

// hole is a constructor that lacks a field.
type hole struct {
	con    int
	fields []datum
	lacks  int64
}

// run takes steps until the result is there, and calls a function with the number of cells in use after each of them.
func (m *machine) run(fuel int, after func(used int)) api.Errno {
	steps := m.steps()
	for !m.done {
		f := &m.p.Funs[m.now.fun]
		if f.Extern {
			return api.ErrNone
		}
		if fuel == 0 {
			return api.ErrFuel
		}
		fuel--
		n := &f.Code[m.now.node]
		steps[n.Op](n)
		if m.used > api.MaxCells {
			return api.ErrCells
		}
		after(m.used)
	}
	return api.OK
}

// steps returns the step of each operation.
func (m *machine) steps() [api.Ops]func(*api.Node) {
	return [api.Ops]func(*api.Node){
		api.Ret:   m.ret,
		api.Num:   m.number,
		api.Prim:  m.primitive,
		api.Make:  m.construct,
		api.Copy:  m.duplicate,
		api.Drop:  m.drop,
		api.Call:  m.call,
		api.Tail:  m.tail,
		api.Hole:  m.hole,
		api.Match: m.match,
	}
}

func (m *machine) ret(n *api.Node) {
	result := m.now.vars[n.Args[0]]
	for len(m.holes) > m.now.holes {
		h := m.holes[len(m.holes)-1]
		m.holes = m.holes[:len(m.holes)-1]
		h.fields[h.lacks] = result
		result = construct(h.con, h.fields)
	}
	if len(m.frames) == 0 {
		m.result, m.done = result, true
		return
	}
	m.now = m.frames[len(m.frames)-1]
	m.frames = m.frames[:len(m.frames)-1]
	m.used--
	m.bind(&m.fun().Code[m.now.node], result)
}

func (m *machine) number(n *api.Node) {
	m.bind(n, datum{num: n.Num})
}

func (m *machine) primitive(n *api.Node) {
	m.bind(n, datum{num: calculate(n.Num, m.now.vars[n.Args[0]].num, m.now.vars[n.Args[1]].num)})
}

func (m *machine) construct(n *api.Node) {
	m.used += datas.Cells(m.p.Datas, m.fun().Vars[n.Var].Type, n.Con)
	m.bind(n, construct(n.Con, m.values(n.Args)))
}

func (m *machine) duplicate(n *api.Node) {
	m.used += m.now.vars[n.Args[0]].cells()
	m.bind(n, m.now.vars[n.Args[0]])
}

func (m *machine) drop(n *api.Node) {
	m.used -= m.now.vars[n.Args[0]].cells()
	m.now.node = n.Next
}

func (m *machine) call(n *api.Node) {
	m.used++
	args := m.values(n.Args)
	m.frames = append(m.frames, m.now)
	m.now = frame{holes: len(m.holes)}
	m.begin(n.Fun, args)
}

func (m *machine) tail(n *api.Node) {
	m.begin(n.Fun, m.values(n.Args))
}

func (m *machine) hole(n *api.Node) {
	m.used += datas.Cells(m.p.Datas, m.fun().Result, n.Con)
	m.holes = append(m.holes, hole{n.Con, m.values(n.Args), n.Num})
	m.begin(n.Fun, m.values(n.More))
}

func (m *machine) match(n *api.Node) {
	v := m.now.vars[n.Args[0]]
	if n.Take {
		m.used -= datas.Cells(m.p.Datas, m.fun().Vars[n.Args[0]].Type, int(v.num))
	}
	b := n.Branches[v.num]
	for i, to := range b.Binds {
		m.now.vars[to] = v.cell.fields[i]
	}
	m.now.node = b.Then
}

// fun returns the function that is being evaluated.
func (m *machine) fun() *api.Fun {
	return &m.p.Funs[m.now.fun]
}

// begin goes on with the first node of a function in the place of the one that is being evaluated.
func (m *machine) begin(fun int, args []datum) {
	f := &m.p.Funs[fun]
	m.now.fun, m.now.node = fun, f.Body
	// What the other function leaves in the list is never read: a variable is bound before it is used.
	m.now.vars = slices.Grow(m.now.vars[:0], len(f.Vars))[:len(f.Vars)]
	copy(m.now.vars, args)
}

// bind gives the variable of a node its value, and goes on with the next node.
func (m *machine) bind(n *api.Node, d datum) {
	m.now.vars[n.Var] = d
	m.now.node = n.Next
}

// values returns the values of variables, in a new list; that of a hole is not known yet.
func (m *machine) values(vars []int) []datum {
	values := make([]datum, len(vars))
	for i, v := range vars {
		if v >= 0 {
			values[i] = m.now.vars[v]
		}
	}
	return values
}

// calculate returns the result of a primitive function: a number, or the number of a constructor of Bool.
func calculate(op, a, b int64) int64 {
	switch op {
	case api.Add:
		return a + b
	case api.Sub:
		return a - b
	case api.Mul:
		return a * b
	case api.Div:
		return quotient(a, b)
	case api.Mod:
		return remainder(a, b)
	case api.Less:
		return truth(a < b)
	case api.Most:
		return truth(a <= b)
	}
	return truth(a == b)
}

// quotient is rounded towards 0. In Go as here, the least number divided by -1 is itself.
func quotient(a, b int64) int64 {
	if b == 0 {
		return 0
	}
	return a / b
}

func remainder(a, b int64) int64 {
	if b == 0 {
		return a
	}
	return a % b
}

// truth returns the number of the constructor of a Bool.
func truth(b bool) int64 {
	if b {
		return 1
	}
	return 0
}

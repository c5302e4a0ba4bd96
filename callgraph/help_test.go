package callgraph

import (
	"fmt"
	"slices"
	"testing"

	"cellarer/api"
	"cellarer/core"
)

// types are the lines of the data types of most tests.
const types = `data List = Nil | Cons Int List
data Color = Red | Green | Blue
`

// parse returns the program of types and a text.
func parse(t *testing.T, text string) api.Program {
	t.Helper()
	p, at, e := core.Parse(types + text)
	if e != api.OK {
		t.Fatalf("the text has the error %d at %d: %s", e, at, brief(text))
	}
	return p
}

// list is the type List.
const list = api.Type(2)

// programOf returns a program whose functions call those that a table lists for them, in this order, by all of the operations that can. A function without calls is extern if its number is odd.
func programOf(t *testing.T, calls [][]int) api.Program {
	t.Helper()
	p := parse(t, "")
	for fun, callees := range calls {
		f := api.Fun{Name: fmt.Sprintf("f%d", fun), Params: 1, Result: list, Vars: []api.Var{{Type: list}}, Extern: len(callees) == 0 && fun%2 == 1}
		for i, callee := range callees {
			last := api.Call
			if i == len(callees)-1 {
				last = []int{api.Tail, api.Hole, api.Call}[(fun+callee)%3]
			}
			addCall(&f, last, i, callee)
		}
		if n := len(f.Code); !f.Extern && (n == 0 || f.Code[n-1].Op == api.Call) {
			f.Code = append(f.Code, api.Node{Op: api.Ret, Args: []int{len(f.Vars) - 1}})
		}
		p.Funs = append(p.Funs, f)
	}
	if e := core.Check(p); e != api.OK {
		t.Fatalf("the program %s has the error %d", brief(p), e)
	}
	return p
}

// addCall adds nodes that call a function for a variable.
func addCall(f *api.Fun, op, arg, callee int) {
	next, bound := len(f.Code)+1, len(f.Vars)
	switch op {
	case api.Tail:
		f.Code = append(f.Code, api.Node{Op: op, Fun: callee, Args: []int{arg}})
	case api.Hole:
		f.Vars = append(f.Vars, api.Var{})
		number := api.Node{Op: api.Num, Var: bound, Next: next}
		f.Code = append(f.Code, number, api.Node{Op: op, Con: 1, Num: 1, Args: []int{bound, -1}, Fun: callee, More: []int{arg}})
	default:
		f.Vars = append(f.Vars, api.Var{Type: list})
		f.Code = append(f.Code, api.Node{Op: op, Var: bound, Fun: callee, Args: []int{arg}, Next: next})
	}
}

// brief returns a value for a message, for which it may be too long.
func brief(v any) string {
	text := fmt.Sprint(v)
	return text[:min(len(text), 1500)]
}

// equal reports whether two results are equal, where nil and empty slices are.
func equal(a, b any) bool {
	return fmt.Sprint(a) == fmt.Sprint(b)
}

// plain has, for each function, the functions that it calls, and those that it reaches.
type plain struct{ calls, reach [][]bool }

// plainOf returns the plain graph of a program.
func plainOf(p api.Program) plain {
	n := len(p.Funs)
	x := plain{}
	for i, f := range p.Funs {
		x.calls, x.reach = append(x.calls, make([]bool, n)), append(x.reach, make([]bool, n))
		x.reach[i][i] = true
		for _, node := range f.Code {
			if slices.Contains([]int{api.Call, api.Tail, api.Hole}, node.Op) {
				x.calls[i][node.Fun], x.reach[i][node.Fun] = true, true
			}
		}
	}
	for k := range n {
		for i := range n {
			for j := range n {
				x.reach[i][j] = x.reach[i][j] || x.reach[i][k] && x.reach[k][j]
			}
		}
	}
	return x
}

// listed returns the numbers for which a row is true.
func listed(row []bool) []int {
	var out []int
	for i, is := range row {
		if is {
			out = append(out, i)
		}
	}
	return out
}

// members returns the component of a function.
func (x plain) members(fun int) []int {
	row := make([]bool, len(x.calls))
	for other := range row {
		row[other] = x.reach[fun][other] && x.reach[other][fun]
	}
	return listed(row)
}

// components lists the components by their definition: the least function that can come next is looked for again and again.
func (x plain) components() [][]int {
	var out [][]int
	done := make([]bool, len(x.calls))
	for {
		next := -1
		for fun := range x.calls {
			if !done[fun] && x.isNext(x.members(fun), done) {
				next = fun
				break
			}
		}
		if next < 0 {
			return out
		}
		out = append(out, x.members(next))
		for _, member := range x.members(next) {
			done[member] = true
		}
	}
}

// isNext reports whether the functions of a component call only functions of the component and those that are done.
func (x plain) isNext(members []int, done []bool) bool {
	for _, member := range members {
		for _, callee := range listed(x.calls[member]) {
			if !done[callee] && !slices.Contains(members, callee) {
				return false
			}
		}
	}
	return true
}

// reached returns what some numbers reach.
func (x plain) reached(entries []int) []int {
	row := make([]bool, len(x.calls))
	for _, fun := range entries {
		for other := range row {
			row[other] = row[other] || fun >= 0 && fun < len(row) && x.reach[fun][other]
		}
	}
	return listed(row)
}

package rename

import (
	"fmt"
	"testing"

	"cellarer/api"
	"cellarer/core"
)

// types are the lines of the data types of most tests.
const types = `data List = Nil | Cons Int List
data Tree = Leaf | Node Tree List Tree
data Color = Red | Green | Blue
data Pair = Pair List Color | None
`

// read returns the program of types and a text. Its nodes are numbered in preorder, function by function.
func read(t *testing.T, text string) api.Program {
	t.Helper()
	p, at, e := core.Parse(types + text)
	if e != api.OK {
		t.Fatalf("the text has the error %d at %d: %s", e, at, text)
	}
	return p
}

// textOf returns the text of a program.
func textOf(t *testing.T, p api.Program) string {
	t.Helper()
	text, e := core.Text(p)
	if e != api.OK {
		t.Fatalf("Text(%s) is the error %d", brief(p), e)
	}
	return text
}

// grown returns a copy of a list with spare capacity.
func grown[T any](list []T) []T {
	return append(make([]T, 0, len(list)+2), list...)
}

// clone returns a copy of a function that shares no memory with it, and whose slices have spare capacity.
func clone(f api.Fun) api.Fun {
	f.Vars, f.Code = grown(f.Vars), grown(f.Code)
	for j := range f.Code {
		f.Code[j] = cloneNode(f.Code[j])
	}
	return f
}

func cloneNode(n api.Node) api.Node {
	n.Args, n.More, n.Branches = grown(n.Args), grown(n.More), grown(n.Branches)
	for i := range n.Branches {
		n.Branches[i].Binds = grown(n.Branches[i].Binds)
	}
	return n
}

// cloneProgram returns a copy of a program that shares no memory with it.
func cloneProgram(p api.Program) api.Program {
	p.Datas, p.Funs = grown(p.Datas), grown(p.Funs)
	for i := range p.Datas {
		p.Datas[i].Cons = grown(p.Datas[i].Cons)
		for j := range p.Datas[i].Cons {
			p.Datas[i].Cons[j].Fields = grown(p.Datas[i].Cons[j].Fields)
		}
	}
	for i := range p.Funs {
		p.Funs[i] = clone(p.Funs[i])
	}
	return p
}

// changed returns a changed copy of a function.
func changed(f api.Fun, change func(f *api.Fun)) api.Fun {
	f = clone(f)
	change(&f)
	return f
}

// brief returns a value for a message, for which it may be too long.
func brief(v any) string {
	text := fmt.Sprint(v)
	return text[:min(len(text), 1500)]
}

// equal reports whether two results are equal, where nil and empty slices are.
func equal(a, b any) bool {
	return fmt.Sprint(a) == fmt.Sprint(b)
}

func checkNormal(t *testing.T, f, want api.Fun, wantError api.Errno) {
	t.Helper()
	if got, e := Normal(f); !equal(got, want) || e != wantError {
		t.Fatalf("Normal(%s) is %s, %d, want %s, %d", brief(f), brief(got), e, brief(want), wantError)
	}
}

func checkMaps(t *testing.T, f api.Fun, nodes, vars []int, want api.Errno) {
	t.Helper()
	if gotNodes, gotVars, e := Maps(f); !equal(gotNodes, nodes) || !equal(gotVars, vars) || e != want {
		t.Fatalf("Maps(%s) is %v, %v, %d, want %v, %v, %d", brief(f), gotNodes, gotVars, e, nodes, vars, want)
	}
}

func checkSame(t *testing.T, a, b api.Program, want bool) {
	t.Helper()
	if Same(a, b) != want || Same(b, a) != want {
		t.Fatalf("Same(%s, %s) is not %v", brief(a), brief(b), want)
	}
}

// grafting is what Graft is called with.
type grafting struct {
	f    api.Fun
	node int
	g    api.Fun
	args []int
	to   int
}

// checkGraft checks a result of Graft, but for the More of operations other than Hole.
func checkGraft(t *testing.T, x grafting, want api.Fun, origins []int, wantError api.Errno) {
	t.Helper()
	got, gotOrigins, e := Graft(x.f, x.node, x.g, x.args, x.to)
	if !equal(withoutMore(got), withoutMore(want)) || !equal(gotOrigins, origins) || e != wantError {
		t.Fatalf("Graft(%s) is %s, %v, %d, want %s, %v, %d", brief(x), brief(got), gotOrigins, e, brief(want), origins, wantError)
	}
}

// withoutMore returns a function without the numbers that a graft does not specify.
func withoutMore(f api.Fun) api.Fun {
	return changed(f, func(f *api.Fun) {
		for i, n := range f.Code {
			if n.Op != api.Hole {
				clear(f.Code[i].More)
			}
		}
	})
}

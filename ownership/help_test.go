package ownership

import (
	"fmt"
	"testing"

	"cellarer/api"
	"cellarer/core"
)

// types are the lines of the data types of most tests.
const types = `data List = Nil | Cons Int List
data Tree = Leaf | Node Tree List Tree
data Color = Red | Green | Blue
data Pair = Pair List List | None
`

// parse returns the program of types and a text. The numbers of its nodes are those of their lines in each function, but for the lines of branches.
func parse(t *testing.T, text string) api.Program {
	t.Helper()
	p, at, e := core.Parse(types + text)
	if e != api.OK {
		t.Fatalf("the text has the error %d at %d: %s", e, at, text)
	}
	return p
}

// textOf returns the text of a program without the lines of data types.
func textOf(t *testing.T, p api.Program) string {
	t.Helper()
	text, e := core.Text(p)
	if e != api.OK {
		t.Fatalf("Text(%s) is the error %d", brief(p), e)
	}
	return text[len(types):]
}

// grown returns a copy of a list with spare capacity.
func grown[T any](list []T) []T {
	return append(make([]T, 0, len(list)+2), list...)
}

// clone returns a copy of a program that shares no memory with it, and whose slices have spare capacity.
func clone(p api.Program) api.Program {
	p.Datas, p.Funs = grown(p.Datas), grown(p.Funs)
	for i := range p.Datas {
		p.Datas[i].Cons = grown(p.Datas[i].Cons)
		for j := range p.Datas[i].Cons {
			p.Datas[i].Cons[j].Fields = grown(p.Datas[i].Cons[j].Fields)
		}
	}
	for i := range p.Funs {
		f := &p.Funs[i]
		f.Vars, f.Code = grown(f.Vars), grown(f.Code)
		for j := range f.Code {
			f.Code[j] = cloneNode(f.Code[j])
		}
	}
	return p
}

func cloneNode(n api.Node) api.Node {
	n.Args, n.More, n.Branches = grown(n.Args), grown(n.More), grown(n.Branches)
	for i := range n.Branches {
		n.Branches[i].Binds = grown(n.Branches[i].Binds)
	}
	return n
}

// brief returns a value for a message, for which it may be too long.
func brief(v any) string {
	text := fmt.Sprint(v)
	return text[:min(len(text), 1500)]
}

// equal reports whether two results are equal, where nil and empty slices are.
func equal(a, b any) bool {
	return fmt.Sprint(a) == fmt.Sprint(b)
}

func checkCheck(t *testing.T, p api.Program, fun, node int, want api.Errno) {
	t.Helper()
	if got, e := Check(p, fun); got != node || e != want {
		t.Fatalf("Check(%s, %d) is %d, %d, want %d, %d", brief(p), fun, got, e, node, want)
	}
}

func checkCheckAll(t *testing.T, p api.Program, fun, node int, want api.Errno) {
	t.Helper()
	if gotFun, got, e := CheckAll(p); gotFun != fun || got != node || e != want {
		t.Fatalf("CheckAll(%s) is %d, %d, %d, want %d, %d, %d", brief(p), gotFun, got, e, fun, node, want)
	}
}

func checkComplete(t *testing.T, p, want api.Program, fun, node int, wantError api.Errno) {
	t.Helper()
	if got, gotFun, gotNode, e := Complete(p); !equal(got, want) || gotFun != fun || gotNode != node || e != wantError {
		t.Fatalf("Complete(%s) is %s, %d, %d, %d, want %s, %d, %d, %d", brief(p), brief(got), gotFun, gotNode, e, brief(want), fun, node, wantError)
	}
}

func checkLive(t *testing.T, p api.Program, fun, node int, vars []int, want api.Errno) {
	t.Helper()
	if got, e := Live(p, fun, node); !equal(got, vars) || e != want {
		t.Fatalf("Live(%s, %d, %d) is %v, %d, want %v, %d", brief(p), fun, node, got, e, vars, want)
	}
}

func checkRoots(t *testing.T, p api.Program, fun int, vars []int, want api.Errno) {
	t.Helper()
	if got, e := Roots(p, fun); !equal(got, vars) || e != want {
		t.Fatalf("Roots(%s, %d) is %v, %d, want %v, %d", brief(p), fun, got, e, vars, want)
	}
}

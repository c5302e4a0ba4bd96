package eval

import (
	"fmt"
	"testing"

	"cellarer/api"
	"cellarer/core"
	"cellarer/value"
)

// types are the lines of the data types of most tests.
const types = `data List = Nil | Cons Int List
data Tree = Leaf | Node Tree List Tree
data Color = Red | Green | Blue
data Pair = Pair List List | None
data Nat = Zero | Next Nat
`

// parse returns the program of types and a text.
func parse(t *testing.T, text string) api.Program {
	t.Helper()
	p, at, e := core.Parse(types + text)
	if e != api.OK {
		t.Fatalf("the text has the error %d at %d: %s", e, at, text)
	}
	return p
}

// values returns the values that texts stand for, of the types of a function's parameters.
func values(t *testing.T, p api.Program, fun int, texts []string) []api.Value {
	t.Helper()
	var out []api.Value
	for i, text := range texts {
		v, e := value.Parse(p.Datas, p.Funs[fun].Vars[i].Type, text)
		if e != api.OK {
			t.Fatalf("%q has the error %d", text, e)
		}
		out = append(out, v)
	}
	return out
}

// brief returns a value for a message, for which it may be too long.
func brief(v any) string {
	text := fmt.Sprint(v)
	return text[:min(len(text), 1500)]
}

// traceOf returns the trace of a run with a profile.
func traceOf(profile []int) Trace {
	trace := Trace{Steps: len(profile)}
	for _, used := range profile {
		trace.Peak, trace.Net = max(trace.Peak, used), used
	}
	return trace
}

// isSame reports whether two profiles are equal.
func isSame(a, b []int) bool {
	return fmt.Sprint(a) == fmt.Sprint(b)
}

// checkRun checks the results of Run and Profile.
func checkRun(t *testing.T, p api.Program, fun int, args []api.Value, fuel int, want api.Value, profile []int, wantError api.Errno) {
	t.Helper()
	trace := traceOf(profile)
	if got, gotTrace, e := Run(p, fun, args, fuel); !value.Same(got, want) || gotTrace != trace || e != wantError {
		t.Fatalf("Run(%s, %d, %s, %d) is %s, %v, %d, want %s, %v, %d", brief(p), fun, brief(args), fuel, brief(got), gotTrace, e, brief(want), trace, wantError)
	}
	if got, e := Profile(p, fun, args, fuel); !isSame(got, profile) || e != wantError {
		t.Fatalf("Profile(%s, %d, %s, %d) is %s, %d, want %s, %d", brief(p), fun, brief(args), fuel, brief(got), e, brief(profile), wantError)
	}
}

// checkError checks that Run and Profile return an error, and nothing else.
func checkError(t *testing.T, p api.Program, fun int, args []api.Value, fuel int, want api.Errno) {
	t.Helper()
	checkRun(t, p, fun, args, fuel, api.Value{}, nil, want)
}

// list returns a List with a number of elements.
func list(n int) api.Value {
	v := api.Value{}
	for i := range n {
		v = api.Value{Con: 1, Args: []api.Value{{Num: int64(n - i)}, v}}
	}
	return v
}

func integer(n int64) api.Value {
	return api.Value{Num: n}
}

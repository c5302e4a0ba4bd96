package eval

import (
	"fmt"
	"slices"
	"testing"

	"cellarer/api"
)

// grown returns a copy of a value whose lists have spare capacity.
func grown(v api.Value) api.Value {
	args := make([]api.Value, len(v.Args), len(v.Args)+2)
	for i, arg := range v.Args {
		args[i] = grown(arg)
	}
	v.Args = append(args, api.Value{Num: 77}, api.Value{Con: 78})[:len(args)]
	return v
}

// whole returns the text of a value with the spare capacity of its lists.
func whole(v api.Value) string {
	out := fmt.Sprint(v.Num, v.Con)
	for _, arg := range v.Args[:cap(v.Args)] {
		out += "(" + whole(arg) + ")"
	}
	return out
}

// places adds the addresses of all elements of the lists of a value, and reports whether all of them are new.
func places(v api.Value, found map[*api.Value]bool) bool {
	list := v.Args[:cap(v.Args)]
	for i := range list {
		if found[&list[i]] {
			return false
		}
		found[&list[i]] = true
		if !places(list[i], found) {
			return false
		}
	}
	return true
}

// TestMemory checks that arguments stay as they are, and that a result shares no memory with them, nor its parts with each other.
func TestMemory(t *testing.T) {
	p := parse(t, appendText+`fun pair(v0: List): Pair
  v1 = copy v0
  v2 = Pair v0 v1
  ret v2
fun id(v0: List): List
  ret v0
fun tree(read v0: Tree): Tree
  v1 = Nil
  v2 = copy v0
  v3 = copy v0
  v4 = Node v2 v1 v3
  v5 = copy v4
  v6 = Nil
  v7 = Node v4 v6 v5
  ret v7
`)
	for fun, texts := range [][]string{{"Cons 1 (Cons 2 Nil)", "Cons 3 Nil"}, {"Cons 1 (Cons 2 Nil)"}, {"Cons 1 Nil"}, {"Node Leaf (Cons 1 Nil) Leaf"}} {
		var args []api.Value
		for _, v := range values(t, p, fun, texts) {
			args = append(args, grown(v))
		}
		checkMemory(t, p, fun, args)
	}
}

func checkMemory(t *testing.T, p api.Program, fun int, args []api.Value) {
	t.Helper()
	outer := append(slices.Clip(args), api.Value{Num: 79}) // spare capacity
	args = outer[:len(args)]
	program, before, found := fmt.Sprint(p), "", map[*api.Value]bool{}
	for _, v := range outer {
		before += whole(v)
		places(v, found)
	}
	for i := range outer {
		found[&outer[i]] = true
	}
	first, _, e := Run(p, fun, args, 1000)
	second, _, _ := Run(p, fun, args, 1000)
	after := ""
	for _, v := range outer {
		after += whole(v)
	}
	if fmt.Sprint(p) != program || after != before {
		t.Fatalf("Run of %d of %s changes its arguments %s", fun, brief(p), brief(before))
	}
	if !places(first, found) || !places(second, found) {
		t.Fatalf("the result of %d of %s for %s, with the error %d, shares memory", fun, brief(p), brief(args), e)
	}
}

// TestDrawnMemory does the same for drawn programs.
func TestDrawnMemory(t *testing.T) {
	r, base := newDrawn(5), parse(t, "")
	for range 300 {
		p := r.program(t, base)
		for fun := range p.Funs {
			var args []api.Value
			for _, v := range r.args(p, fun) {
				args = append(args, grown(v))
			}
			checkMemory(t, p, fun, args)
		}
	}
}

// TestUnchanged runs programs at the same time: none of them changes what the others read.
func TestUnchanged(t *testing.T) {
	p, done := parse(t, appendText), make(chan string)
	args := []api.Value{list(20), list(20)}
	for range 8 {
		go func() {
			v, trace, e := Run(p, 0, args, 1000)
			done <- fmt.Sprint(v, trace, e)
		}()
	}
	first := <-done
	for range 7 {
		if next := <-done; next != first {
			t.Errorf("runs of the same function differ: %s and %s", brief(first), brief(next))
		}
	}
}

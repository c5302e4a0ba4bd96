package core

import (
	"fmt"
	"math"
	"slices"
	"testing"

	"cellarer/api"
)

// full is a node all of whose fields are set.
func full(op int) api.Node {
	return api.Node{Op: op, Var: 7, Args: []int{3, -1, 4, -2}, Con: 5, Num: 6, Fun: 8, More: []int{-3, 9, -1, 3}, Take: true, Branches: []api.Branch{{Binds: []int{10, 11}, Then: 12}, {Then: 13}, {Binds: []int{-5, 10}, Then: -6}}, Next: 14}
}

func checkLists(t *testing.T, n api.Node, kids, uses, binds []int) {
	t.Helper()
	if got := Kids(n); !slices.Equal(got, kids) {
		t.Errorf("Kids(%v) is %v, want %v", n, got, kids)
	}
	if got := Uses(n); !slices.Equal(got, uses) {
		t.Errorf("Uses(%v) is %v, want %v", n, got, uses)
	}
	if got := Binds(n); !slices.Equal(got, binds) {
		t.Errorf("Binds(%v) is %v, want %v", n, got, binds)
	}
}

// TestLists has the kids, uses and binds of nodes all of whose fields are set, so that the operation alone decides.
func TestLists(t *testing.T) {
	args, next, binds := []int{3, -1, 4, -2}, []int{14}, []int{7}
	for op, want := range [][3][]int{
		api.Ret: {nil, args, nil}, api.Num: {next, nil, binds}, api.Prim: {next, args, binds}, api.Make: {next, args, binds}, api.Copy: {next, args, binds}, api.Drop: {next, args, nil}, api.Call: {next, args, binds},
		api.Tail: {nil, args, nil}, api.Hole: {nil, []int{3, 4, 9, 3}, nil}, api.Match: {{12, 13, -6}, args, {10, 11, -5, 10}},
	} {
		checkLists(t, full(op), want[0], want[1], want[2])
		// A node without anything.
		var kids, binds []int
		if op != api.Match && len(want[0]) > 0 {
			kids = []int{0}
		}
		if op != api.Match && len(want[2]) > 0 {
			binds = []int{0}
		}
		checkLists(t, api.Node{Op: op}, kids, nil, binds)
	}
	for _, op := range []int{math.MinInt, -1, api.Ops, api.Ops + 1, 64, 1 << 32, math.MaxInt} {
		checkLists(t, full(op), nil, nil, nil)
	}
}

// TestListsAreNew checks that lists share no memory with nodes, and change nothing.
func TestListsAreNew(t *testing.T) {
	for op := range api.Ops {
		n := cloneNode(full(op))
		for i := range n.Branches {
			n.Branches[i].Binds = append(n.Branches[i].Binds, 77)[:len(n.Branches[i].Binds)]
		}
		text := func() string {
			out := fmt.Sprint(n, n.Args[:cap(n.Args)], n.More[:cap(n.More)])
			for _, b := range n.Branches {
				out += fmt.Sprint(b.Binds[:cap(b.Binds)])
			}
			return out
		}
		before := text()
		for _, list := range [][]int{Kids(n), Uses(n), Binds(n), Kids(n), Uses(n), Binds(n)} {
			list = list[:cap(list)]
			for i := range list {
				list[i] = -99
			}
		}
		if text() != before {
			t.Errorf("the node %v was changed: %s", full(op), text())
		}
	}
}

func TestFind(t *testing.T) {
	p := api.Program{Funs: []api.Fun{{Name: "f"}, {Name: "g"}, {Name: "f"}, {Name: ""}, {Name: "a.b", Extern: true}, {Name: "G"}}}
	for name, want := range map[string]int{"f": 0, "g": 1, "": 3, "a.b": 4, "G": 5} {
		if fun, ok := Find(p, name); fun != want || !ok {
			t.Errorf("Find(%q) is %d, %v, want %d", name, fun, ok, want)
		}
	}
	for _, name := range []string{"h", "F", "f ", "a", "b", "a.", "\x00", "ff"} {
		if fun, ok := Find(p, name); fun != 0 || ok {
			t.Errorf("Find(%q) is %d, %v", name, fun, ok)
		}
	}
	if fun, ok := Find(api.Program{}, ""); fun != 0 || ok {
		t.Errorf("Find in nothing is %d, %v", fun, ok)
	}
}

// TestMemory checks that programs are neither changed nor kept, and that results are new.
func TestMemory(t *testing.T) {
	p := clone(read(t, others+all))
	text := func() string {
		out := fmt.Sprint(p, p.Funs[:cap(p.Funs)])
		for _, f := range p.Funs {
			out += fmt.Sprint(f.Vars[:cap(f.Vars)], f.Code[:cap(f.Code)])
			for _, n := range f.Code {
				out += fmt.Sprint(n.Args[:cap(n.Args)], n.More[:cap(n.More)], n.Branches[:cap(n.Branches)])
				for _, b := range n.Branches {
					out += fmt.Sprint(b.Binds[:cap(b.Binds)])
				}
			}
		}
		return out
	}
	before := text()
	checkCheck(t, p, api.OK)
	checkText(t, p, plainText(p), api.OK)
	if text() != before {
		t.Errorf("the program was changed")
	}
	source := plainText(p)
	first, _, _ := Parse(source)
	for i := range first.Datas {
		clear(first.Datas[i].Cons)
	}
	for i := range first.Funs {
		clear(first.Funs[i].Vars)
		clear(first.Funs[i].Code)
	}
	clear(first.Datas)
	checkParse(t, source, p, 0, api.OK)
	// No two lists of a result share memory.
	second, _, _ := Parse(source)
	seen := map[*int]bool{}
	for _, f := range second.Funs {
		for _, n := range f.Code {
			lists := [][]int{n.Args, n.More}
			for _, b := range n.Branches {
				lists = append(lists, b.Binds)
			}
			for _, list := range lists {
				for i := range list[:cap(list)] {
					if at := &list[:cap(list)][i]; seen[at] {
						t.Errorf("two lists of the node %v share memory", n)
					} else {
						seen[at] = true
					}
				}
			}
		}
	}
}

package ownership

import (
	"strings"
	"testing"

	"cellarer/api"
	"cellarer/core"
)

// completedText returns the lines of a completed function without indentation.
func completedText(t *testing.T, text string) string {
	t.Helper()
	p := parse(t, externs+code(text))
	checkPlain(t, p)
	q, _, _, e := Complete(p)
	if e != api.OK {
		t.Fatalf("Complete(%s) is %d", text, e)
	}
	_, body, _ := strings.Cut(textOf(t, q), "fun f")
	var lines []string
	for _, line := range strings.Split(strings.TrimSpace(body), "\n")[1:] {
		lines = append(lines, strings.TrimSpace(line))
	}
	return strings.Join(lines, "; ")
}

// TestComplete has the places at which Drops are added.
func TestComplete(t *testing.T) {
	for _, x := range []struct{ text, want string }{
		// The first example of the chapter.
		{"(v0: List): Int; v1 = 1; ret v1", "drop v0; v1 = 1; ret v1"},
		// Several ones before the Body, those that are needed later behind their last use.
		{"(v0: List, v1: List, v2: Int, v3: Tree, read v4: List): Int; ret v2", "drop v0; drop v1; drop v3; ret v2"},
		{"(v0: List, v1: List): List; v2 = copy v0; v3 = 1; v4 = call look v1; ret v4", "v2 = copy v0; drop v0; drop v2; v3 = 1; v4 = call look v1; drop v1; ret v4"},
		{"(v0: List, v1: List): List; v2 = call looks v0 v1; ret v2", "v2 = call looks v0 v1; drop v0; drop v1; ret v2"},
		// What a node binds is dropped directly behind it.
		{"(v0: Int): Int; v1 = Nil; v2 = call own v1; v3 = copy v2; ret v0", "v1 = Nil; v2 = call own v1; v3 = copy v2; drop v2; drop v3; ret v0"},
		// In branches: what the branch binds, and what is used in other branches only.
		{"(v0: List, v1: List): List; take v0; | Nil; .ret v1; | Cons v2 v3; .v4 = Nil; .ret v4", "take v0; | Nil; ret v1; | Cons v2 v3; drop v1; drop v3; v4 = Nil; ret v4"},
		{"(v0: List, v1: List): List; read v0; | Nil; .tail own v1; | Cons v2 v3; .v4 = copy v3; .ret v4", "read v0; | Nil; drop v0; tail own v1; | Cons v2 v3; drop v1; v4 = copy v3; drop v0; ret v4"},
		{"(v0: Pair, v1: Color): Int; read v1; | Red; .v2 = 1; .ret v2; | Green; .take v0; .| Pair v3 v4; ..v5 = 2; ..ret v5; .| None; ..v6 = 3; ..ret v6; | Blue; .v7 = copy v0; .v8 = 4; .ret v8",
			"read v1; | Red; drop v0; v2 = 1; ret v2; | Green; take v0; | Pair v3 v4; drop v3; drop v4; v5 = 2; ret v5; | None; v6 = 3; ret v6; | Blue; v7 = copy v0; drop v0; drop v7; v8 = 4; ret v8"},
		// A part of an owned variable keeps it.
		{"(v0: Tree): List; read v0; | Leaf; .v1 = Nil; .ret v1; | Node v2 v3 v4; .v5 = 1; .read v3; .| Nil; ..v6 = Nil; ..ret v6; .| Cons v7 v8; ..v9 = copy v8; ..v10 = Cons v7 v9; ..ret v10",
			"read v0; | Leaf; drop v0; v1 = Nil; ret v1; | Node v2 v3 v4; v5 = 1; read v3; | Nil; drop v0; v6 = Nil; ret v6; | Cons v7 v8; v9 = copy v8; drop v0; v10 = Cons v7 v9; ret v10"},
		// Some Drops are there already.
		{"(v0: List, v1: List): Int; drop v1; v2 = 1; ret v2", "drop v0; drop v1; v2 = 1; ret v2"},
		{"(v0: List): Int; v1 = 1; drop v0; ret v1", "v1 = 1; drop v0; ret v1"},
		// Before a Hole and a Tail.
		{"(v0: List, v1: List, v2: Int): List; v3 = copy v0; hole Cons v2 _ : own v3", "drop v1; v3 = copy v0; drop v0; hole Cons v2 _ : own v3"},
		{"(v0: List, v1: List): List; v2 = Nil; tail own v0", "drop v1; v2 = Nil; drop v2; tail own v0"},
	} {
		if got := completedText(t, x.text); got != x.want {
			t.Errorf("%s is completed to\n%s, want\n%s", x.text, got, x.want)
		}
	}
}

// TestNumbersOfDrops has the numbers of the Drops that are added, in the order in which the places are visited, and what leads to them.
func TestNumbersOfDrops(t *testing.T) {
	// The Body is node 1, and the variables are not bound in the order of their numbers.
	p := parse(t, "fun f(v0: Pair, v1: List, v2: Int): Int\n  ret v2\n")
	p.Funs[0].Vars = append(p.Funs[0].Vars, make([]api.Var, 4)...)
	for v := 3; v < 6; v++ {
		p.Funs[0].Vars[v] = api.Var{Type: 2}
	}
	p.Funs[0].Body = 1
	p.Funs[0].Code = []api.Node{
		{Args: []int{2}},
		{Op: api.Match, Take: true, Args: []int{0}, Branches: []api.Branch{{Binds: []int{5, 4}, Then: 3}, {Then: 2}}},
		{Op: api.Num, Var: 6, Next: 0},
		{Op: api.Copy, Var: 3, Args: []int{4}, Next: 4},
		{Args: []int{2}},
	}
	if e := core.Check(p); e != api.OK {
		t.Fatal(e)
	}
	want := clone(p)
	want.Funs[0].Body = 5
	code := want.Funs[0].Code
	code[1].Branches[0].Then, code[3].Next = 6, 7
	drop := func(v, next int) api.Node { return api.Node{Op: api.Drop, Args: []int{v}, Next: next} }
	want.Funs[0].Code = append(code, drop(1, 1), drop(5, 3), drop(3, 8), drop(4, 4))
	checkComplete(t, p, want, 0, 0, api.OK)
	checkPlain(t, p)
	// With v1 used in the second branch only.
	p.Funs[0].Code[0] = api.Node{Op: api.Drop, Args: []int{1}, Next: 5}
	p.Funs[0].Code = append(p.Funs[0].Code, api.Node{Args: []int{6}})
	want = clone(p)
	code = want.Funs[0].Code
	code[1].Branches[0].Then, code[3].Next = 6, 8
	want.Funs[0].Code = append(code, drop(1, 7), drop(5, 3), drop(3, 9), drop(4, 4))
	checkComplete(t, p, want, 0, 0, api.OK)
}

// TestCompleteAll has several functions, all of which are completed, and an extern one.
func TestCompleteAll(t *testing.T) {
	p := parse(t, "fun f(v0: List): Int\n  v1 = 1\n  ret v1\nextern own(v0: List, read v1: List): List\nfun g(v0: List, v1: List): List\n  ret v1\nfun h(): Int\n  v0 = 1\n  ret v0\n")
	q, _, _, e := Complete(p)
	const want = "fun f(v0: List): Int\n  drop v0\n  v1 = 1\n  ret v1\nextern own(v0: List, read v1: List): List\nfun g(v0: List, v1: List): List\n  drop v0\n  ret v1\nfun h(): Int\n  v0 = 1\n  ret v0\n"
	if e != api.OK || textOf(t, q) != want {
		t.Errorf("the completed program is %s, %d", textOf(t, q), e)
	}
	checkPlain(t, p)
}

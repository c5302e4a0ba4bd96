package ownership

import (
	"strings"
	"testing"

	"cellarer/api"
)

// externs are functions with owned, borrowed and flat parameters; f is the function behind them.
const externs = `extern own(v0: List): List
extern look(read v0: List): List
extern both(v0: List, read v1: List): List
extern two(v0: List, v1: List): List
extern looks(read v0: List, read v1: List): List
extern mixed(v0: Int, read v1: List, v2: Color, v3: List): Int
`

const f = 6

// code returns the lines of a function. They are separated by semicolons here, and each point at a beginning stands for two more spaces.
func code(text string) string {
	head, body, _ := strings.Cut(text, ";")
	out := "fun f" + head + "\n"
	for _, line := range strings.Split(body, ";") {
		line = strings.TrimSpace(line)
		points := len(line) - len(strings.TrimLeft(line, "."))
		out += strings.Repeat("  ", points+1) + line[points:] + "\n"
	}
	return out
}

// ruled is a function with the first node that violates a rule, and the number of the rule, or 0.
type ruled struct {
	node, rule int
	text       string
}

func (x ruled) check(t *testing.T) {
	t.Helper()
	p := parse(t, externs+code(x.text))
	if node, rule := (plain{p, p.Funs[f]}).violation(5); node != x.node || rule != x.rule {
		t.Fatalf("the plain check of %s has the rule %d at %d, want %d at %d", x.text, rule, node, x.rule, x.node)
	}
	e := errorOf(x.rule)
	checkCheck(t, p, f, x.node, e)
	if e == api.OK {
		checkCheckAll(t, p, 0, 0, api.OK)
		checkComplete(t, p, p, 0, 0, api.OK)
		return
	}
	checkCheckAll(t, p, f, x.node, e)
	if x.rule < 5 {
		checkComplete(t, p, api.Program{}, f, x.node, e)
		return
	}
	completed := clone(p)
	completed.Funs[f] = plain{p, p.Funs[f]}.completed()
	checkComplete(t, p, completed, 0, 0, api.OK)
	checkCheckAll(t, completed, 0, 0, api.OK)
}

// TestConsumingBorrowed has the first rule: each way to consume a variable, with a borrowed parameter or a part of it.
func TestConsumingBorrowed(t *testing.T) {
	for _, x := range []ruled{
		{0, 1, "(read v0: List): List; ret v0"},
		{0, 1, "(read v0: List): Int; drop v0; v1 = 1; ret v1"},
		{1, 1, "(read v0: List): List; v1 = 1; v2 = Cons v1 v0; ret v2"},
		{0, 1, "(read v0: List): Int; take v0; | Nil; .v1 = 1; .ret v1; | Cons v2 v3; .drop v3; .ret v2"},
		{0, 1, "(read v0: List): List; v1 = call own v0; ret v1"},
		{0, 1, "(v0: List, read v1: List): List; v2 = call two v0 v1; ret v2"},
		{0, 1, "(read v0: List): List; tail own v0"},
		{0, 1, "(read v0: List, v1: List, v2: Int): Pair; hole Pair v0 _ : own v1"},
		{1, 1, "(read v0: List): List; v1 = 1; hole Cons v1 _ : own v0"},
		{3, 1, "(read v0: List): List; read v0; | Nil; .v1 = Nil; .ret v1; | Cons v2 v3; .v4 = Cons v2 v3; .ret v4"},
		{3, 1, "(read v0: List): List; read v0; | Nil; .v1 = Nil; .ret v1; | Cons v2 v3; .ret v3"},
		// A part of an owned variable is borrowed, too.
		{3, 1, "(v0: List): List; read v0; | Nil; .v1 = Nil; .tail two v0 v1; | Cons v2 v3; .drop v3; .tail own v0"},
		// It is read, or flat.
		{0, 0, "(read v0: List): List; v1 = copy v0; ret v1"},
		{0, 0, "(read v0: List): List; v1 = call look v0; ret v1"},
		{0, 0, "(read v0: List): List; tail look v0"},
		{0, 0, "(read v0: List): List; v1 = 1; hole Cons v1 _ : look v0"},
		{0, 0, "(read v0: List): List; read v0; | Nil; .v1 = Nil; .ret v1; | Cons v2 v3; .v4 = copy v3; .v5 = Cons v2 v4; .ret v5"},
		{0, 0, "(read v0: List, v1: List, v2: Int, v3: Color): Int; tail mixed v2 v0 v3 v1"},
		{0, 0, "(v0: Int, v1: Color): Color; v2 = add v0 v0; read v1; | Red; .ret v1; | Green; .ret v1; | Blue; .ret v1"},
	} {
		t.Run(x.text, x.check)
	}
}

// TestUseBehindConsumption has the second rule: each way to use a variable behind each way to consume it.
func TestUseBehindConsumption(t *testing.T) {
	const head = "(v0: List, v1: List, read v2: List, v3: Int, v4: Color): List; "
	consume := []string{"drop v0; v5 = 1", "v5 = Cons v3 v0; drop v5", "v5 = call own v0; drop v5", "v5 = call both v0 v2; drop v5", "v5 = call mixed v3 v2 v4 v0"}
	use := []string{
		"drop v0; tail own v1", "v6 = copy v0; tail two v1 v6", "v6 = Cons v3 v0; tail two v1 v6", "v6 = call own v0; tail two v1 v6", "v6 = call look v0; tail two v1 v6",
		"v6 = call mixed v3 v0 v4 v1; ret v2", "ret v0", "tail own v0", "tail look v0", "hole Cons v3 _ : own v0", "hole Cons v3 _ : look v0",
		"take v0; | Nil; .ret v1; | Cons v6 v7; .drop v7; .ret v1", "read v0; | Nil; .ret v1; | Cons v6 v7; .ret v1",
	}
	for _, c := range consume {
		ruled{0, 0, head + c + "; tail own v1"}.check(t)
		for _, u := range use {
			ruled{strings.Count(c, ";") + 1, 2, head + c + "; " + u}.check(t)
		}
	}
}

// TestPartsBehindConsumption has the second rule for parts of what was consumed.
func TestPartsBehindConsumption(t *testing.T) {
	for _, x := range []ruled{
		{4, 2, "(v0: List): List; read v0; | Nil; .ret v0; | Cons v1 v2; .drop v0; .v3 = Nil; .v4 = copy v2; .drop v4; .ret v3"},
		{3, 2, "(v0: List): List; read v0; | Nil; .ret v0; | Cons v1 v2; .v3 = call own v0; .v4 = call look v2; .drop v3; .ret v4"},
		{5, 2, "(v0: Tree): List; read v0; | Leaf; .v1 = Nil; .drop v0; .ret v1; | Node v2 v3 v4; .drop v0; .read v3; .| Nil; ..v5 = Nil; ..ret v5; .| Cons v6 v7; ..v8 = Nil; ..ret v8"},
		{6, 2, "(v0: Tree): List; read v0; | Leaf; .v1 = Nil; .drop v0; .ret v1; | Node v2 v3 v4; .read v2; .| Leaf; ..drop v0; ..v5 = copy v3; ..ret v5; .| Node v6 v7 v8; ..drop v0; ..v9 = copy v7; ..ret v9"},
		// Flat parts may be used, and other parts before.
		{0, 0, "(v0: List): Int; read v0; | Nil; .drop v0; .v1 = 1; .ret v1; | Cons v2 v3; .drop v0; .ret v2"},
		{0, 0, "(v0: List): List; read v0; | Nil; .ret v0; | Cons v1 v2; .v3 = copy v2; .drop v0; .ret v3"},
		{0, 0, "(v0: List): List; take v0; | Nil; .v1 = Nil; .ret v1; | Cons v2 v3; .ret v3"},
		// What is consumed in one branch may be used in another one.
		{0, 0, "(v0: List, v1: Color): List; read v1; | Red; .ret v0; | Green; .tail own v0; | Blue; .v2 = copy v0; .drop v0; .ret v2"},
		{0, 0, "(v0: List, v1: List): List; take v0; | Nil; .ret v1; | Cons v2 v3; .drop v1; .ret v3"},
		{1, 2, "(v0: List): List; take v0; | Nil; .ret v0; | Cons v1 v2; .ret v2"},
		{3, 2, "(v0: List, v1: List): List; take v0; | Nil; .drop v1; .v2 = Nil; .ret v1; | Cons v3 v4; .drop v1; .ret v4"},
	} {
		t.Run(x.text, x.check)
	}
}

// TestTwoUses has the third rule.
func TestTwoUses(t *testing.T) {
	for _, x := range []ruled{
		{0, 3, "(v0: List): Pair; v1 = Pair v0 v0; ret v1"},
		{0, 3, "(v0: List): List; v1 = call two v0 v0; ret v1"},
		{0, 3, "(v0: List): List; v1 = call both v0 v0; ret v1"},
		{0, 3, "(v0: List): List; tail two v0 v0"},
		{0, 3, "(v0: List): Pair; hole Pair v0 _ : own v0"},
		{0, 3, "(v0: List): Pair; hole Pair _ v0 : own v0"},
		{1, 3, "(v0: List): List; v1 = 1; hole Cons v1 _ : two v0 v0"},
		{0, 3, "(v0: List, v1: Int, v2: Color): Int; v3 = call mixed v1 v0 v2 v0; ret v3"},
		{2, 3, "(v0: List): List; read v0; | Nil; .ret v0; | Cons v1 v2; .v3 = call both v0 v2; .ret v3"},
		{5, 3, "(v0: Tree): Tree; read v0; | Leaf; .ret v0; | Node v1 v2 v3; .read v1; .| Leaf; ..ret v0; .| Node v4 v5 v6; ..v7 = Nil; ..v8 = Node v0 v7 v0; ..ret v8"},
		// The third and the fourth rule.
		{0, 3, "(v0: List): List; tail both v0 v0"},
		// Different variables, or two that are read.
		{0, 0, "(v0: List, v1: List): Pair; v2 = Pair v0 v1; ret v2"},
		{0, 0, "(v0: List): List; v1 = call looks v0 v0; drop v0; ret v1"},
		{0, 0, "(v0: List, read v1: List): List; tail both v0 v1"},
		{0, 0, "(v0: List): List; read v0; | Nil; .ret v0; | Cons v1 v2; .v3 = call looks v0 v2; .drop v0; .ret v3"},
		{0, 0, "(read v0: List): List; v1 = call looks v0 v0; drop v1; tail looks v0 v0"},
		{0, 0, "(v0: Int): Int; v1 = add v0 v0; ret v1"},
	} {
		t.Run(x.text, x.check)
	}
}

// TestLastReads has the fourth rule.
func TestLastReads(t *testing.T) {
	for _, x := range []ruled{
		{0, 4, "(v0: List): List; tail look v0"},
		{1, 4, "(v0: List): List; v1 = 1; hole Cons v1 _ : look v0"},
		{1, 4, "(v0: Int): List; v1 = Nil; tail look v1"},
		{2, 4, "(v0: List): List; read v0; | Nil; .ret v0; | Cons v1 v2; .tail look v2"},
		{2, 4, "(v0: List): List; read v0; | Nil; .ret v0; | Cons v1 v2; .hole Cons v1 _ : look v2"},
		{0, 4, "(v0: List, read v1: List): List; tail looks v1 v0"},
		{0, 4, "(v0: List, v1: List): List; tail both v0 v1"},
		{1, 4, "(read v0: List): List; v1 = copy v0; tail look v1"},
		// The fourth and the fifth rule.
		{0, 4, "(v0: List, v1: List): List; tail look v0"},
		{0, 0, "(read v0: List): List; tail look v0"},
		{0, 0, "(read v0: List): List; tail looks v0 v0"},
		{0, 0, "(read v0: List): List; read v0; | Nil; .tail look v0; | Cons v1 v2; .hole Cons v1 _ : look v2"},
		{0, 0, "(read v0: Tree): List; read v0; | Leaf; .v1 = Nil; .ret v1; | Node v2 v3 v4; .read v4; .| Leaf; ..tail look v3; .| Node v5 v6 v7; ..tail looks v3 v6"},
		{0, 0, "(v0: List, read v1: List): List; tail both v0 v1"},
		{0, 0, "(v0: List, read v1: List): Pair; hole Pair v0 _ : look v1"},
		{0, 0, "(v0: List): List; v1 = call look v0; drop v0; ret v1"},
	} {
		t.Run(x.text, x.check)
	}
}

// TestMissingConsumption has the fifth rule: variables that each operation binds, and each last node.
func TestMissingConsumption(t *testing.T) {
	for _, x := range []ruled{
		// The first example of the chapter.
		{1, 5, "(v0: List): Int; v1 = 1; ret v1"},
		{0, 5, "(v0: List, v1: List): List; ret v1"},
		{0, 5, "(v0: List, v1: List): List; tail own v0"},
		{0, 5, "(v0: List, v1: List, v2: Int): List; hole Cons v2 _ : own v1"},
		{0, 5, "(v0: List, read v1: List, v2: List): Pair; hole Pair _ v0 : look v1"},
		{2, 5, "(): Int; v0 = Nil; v1 = 1; ret v1"},
		{2, 5, "(read v0: List): Int; v1 = copy v0; v2 = 1; ret v2"},
		{2, 5, "(read v0: List): Int; v1 = call look v0; v2 = 1; ret v2"},
		{3, 5, "(v0: List): Int; take v0; | Nil; .v1 = 1; .ret v1; | Cons v2 v3; .ret v2"},
		{2, 5, "(v0: List): Int; read v0; | Nil; .v1 = 1; .ret v1; | Cons v2 v3; .drop v0; .ret v2"},
		{4, 5, "(v0: List): Int; read v0; | Nil; .v1 = 1; .drop v0; .ret v1; | Cons v2 v3; .ret v2"},
		{1, 5, "(v0: List): List; v1 = copy v0; ret v1"},
		{1, 5, "(v0: List): List; v1 = call look v0; ret v1"},
		// Flat and borrowed variables, and those of other branches.
		{0, 0, "(v0: Int, v1: Color, read v2: List): Int; ret v0"},
		{0, 0, "(): List; v0 = Nil; v1 = 1; v2 = Cons v1 v0; ret v2"},
		{0, 0, "(v0: List): Int; take v0; | Nil; .v1 = 1; .v2 = Nil; .drop v2; .ret v1; | Cons v3 v4; .drop v4; .ret v3"},
		{0, 0, "(v0: Pair): List; take v0; | Pair v1 v2; .tail two v1 v2; | None; .v3 = Nil; .ret v3"},
		{1, 5, "(v0: Pair): List; take v0; | Pair v1 v2; .tail own v1; | None; .v3 = Nil; .ret v3"},
		{0, 0, "(v0: List, v1: List, read v2: List): Pair; hole Pair v0 _ : both v1 v2"},
	} {
		t.Run(x.text, x.check)
	}
}

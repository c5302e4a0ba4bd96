package printer

import (
	"fmt"
	"math/rand"
	"slices"
	"strconv"
	"strings"
	"testing"

	"cellarer/api"
	"cellarer/parser"
	"cellarer/syntax"
)

// brief returns a value for a message, for which it may be too long.
func brief(v any) string {
	text := fmt.Sprintf("%q", v)
	return text[:min(len(text), 400)]
}

// tree returns the tree of a module or of an expression.
func tree(src string) api.Tree {
	read := parser.Expr
	if strings.HasPrefix(src, "module ") {
		read = parser.Parse
	}
	t, at, e := read(src)
	if e != api.OK {
		panic(fmt.Sprintf("%s has the error %d at %d", brief(src), e, at))
	}
	return t
}

func checkPrint(t *testing.T, of api.Tree, want string, wantError api.Errno) {
	t.Helper()
	if got, e := Print(of); got != want || e != wantError {
		t.Fatalf("Print(%s) is\n%s\n%d, want\n%s\n%d", brief(of), got[:min(len(got), 2000)], e, want[:min(len(want), 2000)], wantError)
	}
}

// checkSource checks that the tree of a source has a text, and that this is the text of the tree of the text, too.
func checkSource(t *testing.T, src, want string) {
	t.Helper()
	checkPrint(t, tree(src), want, api.OK)
	checkPrint(t, tree(want), want, api.OK)
}

// leaf returns a tree whose root has trees as kids. Its leaves are in preorder.
func leaf(kind int, text string, num int64, kids ...api.Tree) api.Tree {
	out := api.Tree{Leaves: []api.Leaf{{Kind: kind, Text: text, Num: num}}}
	for _, kid := range kids {
		from := len(out.Leaves)
		out.Leaves[0].Kids = append(out.Leaves[0].Kids, from)
		for _, l := range kid.Leaves {
			l.Kids = slices.Clone(l.Kids)
			for i := range l.Kids {
				l.Kids[i] += from
			}
			out.Leaves = append(out.Leaves, l)
		}
	}
	return out
}

func name(text string) api.Tree { return leaf(syntax.Name, text, 0) }
func num(n int64) api.Tree      { return leaf(syntax.Num, "", n) }

// drawn makes trees.
type drawn struct{ *rand.Rand }

func newDrawn(seed int64) drawn {
	return drawn{rand.New(rand.NewSource(seed))}
}

func (d drawn) of(texts ...string) string {
	return texts[d.Intn(len(texts))]
}

func (d drawn) lower() string { return d.of("x", "y", "lets", "a_1", strings.Repeat("n", api.MaxName)) }
func (d drawn) upper() string { return d.of("C", "D", "Nil", "X_1", strings.Repeat("N", api.MaxName)) }

func (d drawn) number() int64 {
	n, _ := strconv.ParseInt(d.of("0", "1", "-1", "42", "9223372036854775807", "-9223372036854775808"), 10, 64)
	return n
}

// several returns between least and most trees.
func (d drawn) several(least, most int, one func() api.Tree) []api.Tree {
	var out []api.Tree
	for range least + d.Intn(most+1-least) {
		out = append(out, one())
	}
	return out
}

func (d drawn) expr(depth int) api.Tree {
	next := func() api.Tree { return d.expr(depth - 1 - d.Intn(2)) }
	choice := d.Intn(14)
	if depth <= 0 {
		choice = d.Intn(3)
	}
	switch choice {
	case 0:
		return name(d.lower())
	case 1:
		return num(d.number())
	case 2:
		return leaf(syntax.Build, d.upper(), 0)
	case 3:
		return leaf(syntax.Build, d.upper(), 0, d.several(1, 3, next)...)
	case 4, 5:
		return leaf(syntax.Apply, d.lower(), 0, d.several(1, 3, next)...)
	case 6:
		return leaf(syntax.Copy, "", 0, next())
	case 7, 8, 9:
		return leaf(syntax.Binary, "", int64(d.Intn(api.Prims)), next(), next())
	case 10, 11:
		return leaf(syntax.Let, d.lower(), 0, next(), next())
	case 12:
		return leaf(syntax.If, "", 0, next(), next(), next())
	}
	scrutinees := d.several(1, 2, next)
	clauses := d.several(1, 3, func() api.Tree {
		patterns := d.several(len(scrutinees), len(scrutinees), func() api.Tree { return d.pattern(2) })
		return leaf(syntax.Clause, "", 0, append(patterns, next())...)
	})
	return leaf([]int{syntax.Match, syntax.View}[d.Intn(2)], "", int64(len(scrutinees)), append(scrutinees, clauses...)...)
}

func (d drawn) pattern(depth int) api.Tree {
	switch d.Intn(6) {
	case 0:
		return leaf(syntax.PWild, "", 0)
	case 1:
		return leaf(syntax.PName, d.lower(), 0)
	case 2:
		return leaf(syntax.PNum, "", d.number())
	}
	return leaf(syntax.PCon, d.upper(), 0, d.several(0, depth, func() api.Tree { return d.pattern(depth - 1) })...)
}

func (d drawn) module() api.Tree {
	kind := func() api.Tree { return leaf(syntax.Type, d.upper(), 0) }
	imports := d.several(0, 2, func() api.Tree {
		return leaf(syntax.Import, d.lower(), 0, d.several(1, 3, func() api.Tree { return name(d.lower()) })...)
	})
	declarations := d.several(0, 4, func() api.Tree {
		if d.Intn(2) == 0 {
			return leaf(syntax.Data, d.upper(), 0, d.several(1, 3, func() api.Tree { return leaf(syntax.Con, d.upper(), 0, d.several(0, 3, kind)...) })...)
		}
		params := d.several(0, 3, func() api.Tree { return leaf(syntax.Param, d.lower(), int64(d.Intn(2)), kind()) })
		return leaf(syntax.Fun, d.lower(), 0, append(params, kind(), d.expr(4))...)
	})
	return leaf(syntax.Module, d.lower(), 0, append(imports, declarations...)...)
}

// mixed returns a tree with its leaves in another order, and with other ranges.
func (d drawn) mixed(t api.Tree) api.Tree {
	order := d.Perm(len(t.Leaves))
	out := api.Tree{Leaves: make([]api.Leaf, len(t.Leaves)), Root: order[t.Root]}
	for i, l := range t.Leaves {
		l.At.From = d.Intn(api.MaxSource + 1)
		l.At.To = l.At.From + d.Intn(api.MaxSource+1-l.At.From)
		l.Kids = slices.Clone(l.Kids)
		for j, kid := range l.Kids {
			l.Kids[j] = order[kid]
		}
		out.Leaves[order[i]] = l
	}
	return out
}

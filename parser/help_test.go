package parser

import (
	"fmt"
	"reflect"
	"strings"
	"testing"

	"cellarer/api"
	"cellarer/syntax"
)

// reading is Parse or Expr.
type reading func(src string) (api.Tree, int, api.Errno)

// brief returns a value for a message, for which it may be too long.
func brief(v any) string {
	text := fmt.Sprintf("%q", v)
	return text[:min(len(text), 400)]
}

// checkTree checks that a source has the tree of a text, with its leaves in preorder.
func checkTree(t *testing.T, read reading, src, want string) {
	t.Helper()
	tree, at, e := read(src)
	if e != api.OK || at != 0 {
		t.Fatalf("%s returns %d, %d", brief(src), at, e)
	}
	if got, e := syntax.Dump(tree); got != want || e != api.OK {
		t.Fatalf("%s has the tree %s, %d, want %s", brief(src), brief(got), e, brief(want))
	}
	checkPreorder(t, src, tree)
}

func checkExpr(t *testing.T, src, want string) {
	t.Helper()
	checkTree(t, Expr, src, want)
	// An expression is the same in a function.
	checkTree(t, Parse, "module m fun f : T ="+" "+src, "(module m (fun f (type T) "+want+"))")
}

func checkParse(t *testing.T, src, want string) {
	t.Helper()
	checkTree(t, Parse, src, want)
}

// checkPreorder checks that the leaves of a tree follow each other as they are visited.
func checkPreorder(t *testing.T, src string, tree api.Tree) {
	t.Helper()
	var order []int
	var visit func(leaf int)
	visit = func(leaf int) {
		order = append(order, leaf)
		for _, kid := range tree.Leaves[leaf].Kids {
			visit(kid)
		}
	}
	visit(tree.Root)
	for i, leaf := range order {
		if i != leaf {
			t.Fatalf("%s has its leaves in the order %v", brief(src), order)
		}
	}
}

// checkError checks that a source has an error, and no tree.
func checkError(t *testing.T, read reading, src string, at int, want api.Errno) {
	t.Helper()
	if tree, gotAt, e := read(src); !reflect.DeepEqual(tree, api.Tree{}) || gotAt != at || e != want {
		t.Fatalf("%s returns %s, %d, %d, want the offset %d and the error %d", brief(src), brief(tree), gotAt, e, at, want)
	}
}

// checkWrong checks that an expression has ErrSyntax at an offset, by itself and in a function.
func checkWrong(t *testing.T, src string, at int) {
	t.Helper()
	checkError(t, Expr, src, at, api.ErrSyntax)
	const before = "module m fun f : T = "
	checkError(t, Parse, before+src, len(before)+at, api.ErrSyntax)
}

// marked returns a source without its mark @, and where the mark is.
func marked(src string) (string, int) {
	before, after, _ := strings.Cut(src, "@")
	return before + after, len(before)
}

// ranges returns the ranges that are drawn with dashes, one after another with a | between them.
func ranges(drawing string) []api.Span {
	var spans []api.Span
	for line := range strings.SplitSeq(drawing, "|") {
		spans = append(spans, api.Span{From: strings.Index(line, "-"), To: len(line)})
	}
	return spans
}

// checkSpans checks the ranges of the leaves of a source, in preorder.
func checkSpans(t *testing.T, read reading, src, drawing string) {
	t.Helper()
	tree, at, e := read(src)
	if e != api.OK {
		t.Fatalf("%s returns %d, %d", brief(src), at, e)
	}
	var spans []api.Span
	for _, l := range tree.Leaves {
		spans = append(spans, l.At)
	}
	if want := ranges(drawing); !reflect.DeepEqual(spans, want) {
		t.Fatalf("%s has the ranges %v, want %v", brief(src), spans, want)
	}
}

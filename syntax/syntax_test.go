package syntax

import (
	"math"
	"reflect"
	"slices"
	"strings"
	"testing"

	"cellarer/api"
)

func TestExamples(t *testing.T) {
	tree := api.Tree{Leaves: []api.Leaf{{Kind: Let, Text: "x", Kids: []int{1, 3}}, {Kind: Apply, Text: "f", Kids: []int{2}}, {Kind: Num, Num: 1}, {Kind: Name, Text: "x"}}}
	checkDump(t, tree, "(let x (apply f (num 1)) (name x))", api.OK)
	checkCheck(t, api.Tree{Leaves: []api.Leaf{{Kind: Build, Text: "C"}}}, api.OK)
	checkCheck(t, api.Tree{Leaves: []api.Leaf{{Kind: Apply, Text: "f"}}}, api.ErrForm)
	checkCheck(t, api.Tree{Leaves: []api.Leaf{{Kind: Name, Text: "let"}}}, api.ErrForm)
}

func TestKids(t *testing.T) {
	tree := read(large)
	for leaf, l := range tree.Leaves {
		checkKids(t, tree, leaf, l.Kids)
	}
	for _, leaf := range []int{math.MinInt, -1, len(tree.Leaves), len(tree.Leaves) + 1, math.MaxInt} {
		checkKids(t, tree, leaf, nil)
	}
	// The order is that of the kids, not that of the table.
	tree = api.Tree{Leaves: []api.Leaf{{Kind: Num}, {Kind: Binary, Kids: []int{2, 0}}, {Kind: Num}}, Root: 1}
	checkKids(t, tree, 1, []int{2, 0})
	checkKids(t, tree, 0, nil)
	// Trees that are not valid have no kids, also where the leaf itself is right.
	tree.Leaves[2].Text = "x"
	checkKids(t, tree, 1, nil)
	checkKids(t, wide(api.MaxNodes, "(num 1)"), 0, nil)
	checkKids(t, chain(api.MaxDepth+1), 0, nil)
	checkKids(t, chain(api.MaxDepth), 0, []int{1})
	checkKids(t, api.Tree{}, 0, nil)
}

func TestSub(t *testing.T) {
	tree := api.Tree{Leaves: []api.Leaf{
		{Kind: Num, Num: 5, At: api.Span{From: 9, To: 10}}, {Kind: Copy, Kids: []int{4}, At: api.Span{From: 3, To: 4}}, {Kind: Binary, Num: 1, Kids: []int{3, 1}},
		{Kind: Build, Text: "C", Kids: []int{5, 0}, At: api.Span{From: 1, To: 2}}, {Kind: Name, Text: "x"}, {Kind: Name, Text: "y", At: api.Span{From: 6, To: 6}},
	}, Root: 2}
	checkSub(t, tree, 3, api.Tree{Leaves: []api.Leaf{{Kind: Build, Text: "C", Kids: []int{1, 2}, At: api.Span{From: 1, To: 2}}, {Kind: Name, Text: "y", At: api.Span{From: 6, To: 6}}, {Kind: Num, Num: 5, At: api.Span{From: 9, To: 10}}}})
	checkSub(t, tree, 1, api.Tree{Leaves: []api.Leaf{{Kind: Copy, Kids: []int{1}, At: api.Span{From: 3, To: 4}}, {Kind: Name, Text: "x"}}})
	checkSub(t, tree, 0, api.Tree{Leaves: []api.Leaf{{Kind: Num, Num: 5, At: api.Span{From: 9, To: 10}}}})
	checkSub(t, tree, 2, api.Tree{Leaves: []api.Leaf{
		{Kind: Binary, Num: 1, Kids: []int{1, 4}}, {Kind: Build, Text: "C", Kids: []int{2, 3}, At: api.Span{From: 1, To: 2}}, {Kind: Name, Text: "y", At: api.Span{From: 6, To: 6}},
		{Kind: Num, Num: 5, At: api.Span{From: 9, To: 10}}, {Kind: Copy, Kids: []int{5}, At: api.Span{From: 3, To: 4}}, {Kind: Name, Text: "x"},
	}})
	for _, leaf := range []int{math.MinInt, -1, 6, 7, math.MaxInt} {
		checkSubError(t, tree, leaf, api.ErrRange)
	}
}

// TestOrderOfErrors has trees with several errors. The errors of Check precede that of a leaf, also where the leaf itself is right, and that of a text.
func TestOrderOfErrors(t *testing.T) {
	for _, c := range []struct {
		tree api.Tree
		e    api.Errno
	}{
		{wide(api.MaxNodes, "(num 1)"), api.ErrMany}, {chain(api.MaxDepth + 1), api.ErrDeep}, {read("(apply f)"), api.ErrForm}, {api.Tree{}, api.ErrForm},
		{changed(chain(api.MaxDepth+1), 3, func(l *api.Leaf) { l.Num = 1 }), api.ErrForm},
		{wide(api.MaxNodes, " (name "+strings.Repeat("n", api.MaxName)+")"), api.ErrMany},
		{changed(wide(api.MaxNodes-1, " (name "+strings.Repeat("n", api.MaxName)+")"), 9, func(l *api.Leaf) { l.Text = "N" }), api.ErrForm},
	} {
		for _, leaf := range []int{0, 1, -1, api.MaxNodes, math.MaxInt} {
			checkSubError(t, c.tree, leaf, c.e)
		}
		checkDump(t, c.tree, "", c.e)
	}
}

func TestLongestTexts(t *testing.T) {
	// Each kid takes 40 bytes, and the root 8 and its Text.
	const kids = (api.MaxSource - 9) / 40
	tree := wide(kids, " (name "+strings.Repeat("n", api.MaxName)+")")
	tree.Leaves[0].Text = "C" + strings.Repeat("_", api.MaxSource-9-40*kids)
	text, e := Dump(tree)
	if len(text) != api.MaxSource || e != api.OK {
		t.Fatalf("Dump returns %d bytes and the error %d", len(text), e)
	}
	longer := changed(tree, 0, func(l *api.Leaf) { l.Text += "_" })
	checkCheck(t, longer, api.OK)
	checkDump(t, longer, "", api.ErrLong)
	checkDump(t, wide(api.MaxNodes-1, " (name "+strings.Repeat("n", api.MaxName)+")"), "", api.ErrLong)
	// Only Dump has this limit.
	checkSame(t, longer, longer, true)
	checkSame(t, longer, tree, false)
	checkSub(t, longer, 0, longer)
}

func TestSame(t *testing.T) {
	tree := read(large)
	checkSame(t, tree, tree, true)
	for leaf, l := range tree.Leaves {
		checkSame(t, tree, changed(tree, leaf, func(l *api.Leaf) { l.At.From, l.At.To = 0, api.MaxSource }), true)
		if l.Text != "" {
			checkSame(t, tree, changed(tree, leaf, func(l *api.Leaf) { l.Text += "_" }), false)
		}
		if n := len(l.Kids) - 1; n > 0 {
			less := changed(tree, leaf, func(l *api.Leaf) { l.Kids[0], l.Kids[n] = l.Kids[n], l.Kids[0] })
			first, _ := Dump(tree)
			second, e := Dump(less)
			checkSame(t, tree, less, e == api.OK && first == second)
		}
	}
	for _, pair := range [][2]string{
		{"(num 1)", "(num 2)"}, {"(num 1)", "(pnum 1)"}, {"(name x)", "(pname x)"}, {"(build C)", "(pcon C)"}, {"(build C)", "(type C)"}, {"(param x 0 (type T))", "(param x 1 (type T))"},
		{"(binary 0 (num 1) (num 2))", "(binary 1 (num 1) (num 2))"}, {"(binary 0 (num 1) (num 2))", "(binary 0 (num 2) (num 1))"}, {samples[Match], samples[View]},
		{"(build C (num 1))", "(build C (num 1) (num 1))"}, {"(build C (build C (num 1)) (num 2))", "(build C (build C (num 1) (num 2)))"}, {"(build C (build C) (num 2))", "(build C (num 2) (build C))"},
		{"(module m)", "(module m (data D (con C)))"}, {"(data D (con C (type T)) (con C))", "(data D (con C) (con C (type T)))"},
	} {
		checkSame(t, read(pair[0]), read(pair[1]), false)
		checkSame(t, read(pair[0]), read(pair[0]), true)
	}
	// Only valid trees are Same.
	for _, wrong := range []api.Tree{{}, read("(apply f)"), chain(api.MaxDepth + 1), wide(api.MaxNodes, "(num 1)")} {
		checkSame(t, wrong, wrong, false)
		checkSame(t, wrong, read("(num 1)"), false)
	}
	checkSame(t, chain(api.MaxDepth), chain(api.MaxDepth), true)
	checkSame(t, wide(api.MaxNodes-1, "(num 1)"), wide(api.MaxNodes-1, "(num 1)"), true)
}

// TestDrawnTrees checks the kids, the trees below leaves, and the texts of drawn trees, and that trees are Same exactly if their texts are equal.
func TestDrawnTrees(t *testing.T) {
	d := newDrawn(2)
	var trees []api.Tree
	var texts []string
	equal := 0
	for range 3000 {
		text := d.text()
		tree := d.mixed(read(text))
		checkDump(t, tree, text, api.OK)
		for leaf, l := range tree.Leaves {
			checkKids(t, tree, leaf, l.Kids)
			want := plainBelow(tree, leaf)
			checkSub(t, tree, leaf, want)
			checkCheck(t, want, api.OK)
			if part, e := Dump(want); e != api.OK || !strings.Contains(text, part) {
				t.Fatalf("the text of leaf %d of %s is %s, %d", leaf, text, part, e)
			}
		}
		sub, e := Sub(tree, tree.Root)
		if e != api.OK {
			t.Fatalf("Sub of %s at its root is the error %d", text, e)
		}
		checkSame(t, sub, tree, true)
		checkSame(t, d.mixed(tree), tree, true)
		trees, texts = append(trees, tree), append(texts, text)
		other := d.Intn(len(trees))
		checkSame(t, tree, trees[other], text == texts[other])
		if less := d.disturbed(tree); Check(less) == api.OK {
			lessText, _ := Dump(less)
			checkSame(t, tree, less, text == lessText)
			equal++
		}
	}
	if equal < 100 {
		t.Errorf("only %d of the disturbed trees are valid", equal)
	}
}

// plainBelow returns the tree below a leaf: that of the leaves in preorder, in which all kids are found by their places.
func plainBelow(t api.Tree, leaf int) api.Tree {
	order := []int{leaf}
	for i := 0; i < len(order); i++ {
		// The kids follow their parent, before everything that was behind it.
		order = slices.Insert(order, i+1, t.Leaves[order[i]].Kids...)
	}
	var out api.Tree
	for _, i := range order {
		l := t.Leaves[i]
		l.Kids = slices.Clone(l.Kids)
		for j, kid := range l.Kids {
			l.Kids[j] = slices.Index(order, kid)
		}
		out.Leaves = append(out.Leaves, l)
	}
	return out
}

// TestMemory checks that arguments are not changed, and that results share no memory with them.
func TestMemory(t *testing.T) {
	tree := read(large)
	for i := range tree.Leaves {
		tree.Leaves[i].Kids = append(tree.Leaves[i].Kids, 9, 9, 9)[:len(tree.Leaves[i].Kids)]
	}
	tree.Leaves = append(tree.Leaves, api.Leaf{Num: 9})[:len(tree.Leaves)]
	before := clone(tree)
	spare := func() []any {
		var l []any
		for _, leaf := range tree.Leaves[:cap(tree.Leaves)] {
			l = append(l, leaf.Num, slices.Clone(leaf.Kids[:cap(leaf.Kids)]))
		}
		return l
	}
	beforeSpare := spare()
	for leaf := range tree.Leaves {
		kids := Kids(tree, leaf)
		for i := range kids {
			kids[i] = -1
		}
		_ = append(kids, -1, -1, -1)
		sub, _ := Sub(tree, leaf)
		for i := range sub.Leaves {
			for j := range sub.Leaves[i].Kids {
				sub.Leaves[i].Kids[j] = -1
			}
			_ = append(sub.Leaves[i].Kids, -1, -1)
			sub.Leaves[i].Text = "?"
		}
		_ = append(sub.Leaves, api.Leaf{Num: -1})
	}
	checkSame(t, tree, tree, true)
	checkDump(t, tree, large, api.OK)
	if !slices.EqualFunc(tree.Leaves, before.Leaves, equalLeaf) || !reflect.DeepEqual(spare(), beforeSpare) {
		t.Errorf("the tree was changed to %v", tree)
	}
	// The kids in one result share no memory either.
	sub, _ := Sub(tree, 0)
	for i := range sub.Leaves {
		_ = append(sub.Leaves[i].Kids, -1, -1, -1, -1)
	}
	checkSub(t, tree, 0, sub)
}

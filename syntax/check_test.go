package syntax

import (
	"math"
	"slices"
	"strings"
	"testing"

	"cellarer/api"
)

// TestKidsOfKinds has leaves of each kind with all lists of up to three kinds of kids.
func TestKidsOfKinds(t *testing.T) {
	var lists [][]int
	for _, length := range []int{0, 1, 2, 3} {
		for code := range int(math.Pow(Kinds-1, float64(length))) {
			var list []int
			for range length {
				list = append(list, 1+code%(Kinds-1))
				code /= Kinds - 1
			}
			lists = append(lists, list)
		}
	}
	trees := make([]api.Tree, Kinds)
	for kind := 1; kind < Kinds; kind++ {
		trees[kind] = read(samples[kind])
	}
	for kind := 1; kind < Kinds; kind++ {
		root, valid := trees[kind].Leaves[0], 0
		root.Kids = nil
		for _, list := range lists {
			tree := api.Tree{Leaves: []api.Leaf{root}}
			for _, kid := range list {
				tree = with(tree, trees[kid])
			}
			want := plainCheck(tree)
			if checkCheck(t, tree, want); want == api.OK {
				valid++
			}
		}
		if valid == 0 {
			t.Errorf("no list of kids is valid for the kind %d", kind)
		}
	}
}

// with returns a tree with a further kid of its root 0.
func with(t, kid api.Tree) api.Tree {
	from := len(t.Leaves)
	t.Leaves[0].Kids = append(t.Leaves[0].Kids, from)
	for _, l := range clone(kid).Leaves {
		for i := range l.Kids {
			l.Kids[i] += from
		}
		t.Leaves = append(t.Leaves, l)
	}
	return t
}

func TestSamples(t *testing.T) {
	for kind := 1; kind < Kinds; kind++ {
		checkCheck(t, read(samples[kind]), api.OK)
		checkDump(t, read(samples[kind]), samples[kind], api.OK)
	}
	checkCheck(t, read(large), api.OK)
	checkDump(t, read(large), large, api.OK)
	for _, l := range read(large).Leaves {
		if l.Kind < 1 {
			t.Errorf("the large tree has the leaf %v", l)
		}
	}
}

func TestValid(t *testing.T) {
	for _, text := range []string{
		"(module m (import a (name x)) (import a (name x) (name x)))", "(module m (fun f (type T) (name x)) (data D (con C)) (fun f (type T) (name x)))",
		"(fun f (param x 1 (type T)) (param x 1 (type T)) (type T) (num 0))", "(con C (type T) (type Int) (type Bool) (type T) (type T) (type T) (type T) (type T))",
		"(import m (name x) (name y) (name x))", "(data D (con C) (con C (type T)))", "(apply f (num 1) (name x) (if (name a) (name b) (name c)))",
		"(match 3 (name x) (name y) (name z) (clause (pwild) (pwild) (pcon A (pnum 1) (pname x)) (name x)))", "(view 3 (name x) (name y) (name z)" + strings.Repeat(" (clause (pwild) (pname x) (pnum 1) (name x))", 3) + ")",
		"(clause (pwild) (pwild) (pwild) (pwild) (num 1))",
		"(view 2 (name x) (num 1) (clause (pwild) (pwild) (name x)) (clause (pname a) (pnum 0) (name x)) (clause (pnum 1) (pcon C) (name x)))",
	} {
		checkCheck(t, read(text), api.OK)
	}
}

func TestNotValid(t *testing.T) {
	for _, text := range []string{
		"(module m (data D (con C)) (import a (name x)))", "(module m (fun f (type T) (name x)) (import a (name x)))", "(module m (con C))", "(module m (name x))", "(module m (module m))",
		"(import m)", "(import m (type T))", "(import m (name x) (num 1))", "(data D)", "(data D (type T))", "(con C (name x))", "(con C (con C))",
		"(fun f (type T))", "(fun f (name x))", "(fun f (name x) (type T))", "(fun f (type T) (type T) (name x))", "(fun f (type T) (name x) (name x))", "(fun f (type T) (param x 0 (type T)) (name x))", "(fun f (type T) (pwild))",
		"(param x 0)", "(param x 0 (type T) (type T))", "(param x 0 (name x))", "(type T (type T))", "(name x (name x))", "(num 1 (num 1))",
		"(apply f)", "(apply f (pname x))", "(apply f (num 1) (type T))", "(build C (pcon C))", "(build C (clause (pwild) (num 1)))",
		"(binary 0)", "(binary 0 (num 1))", "(binary 0 (num 1) (num 1) (num 1))", "(let x (num 1))", "(let x (num 1) (num 1) (num 1))", "(let x (pwild) (num 1))", "(if (num 1) (num 1))", "(if (num 1) (num 1) (num 1) (num 1))", "(if (num 1) (num 1) (pnum 1))",
		"(match 1 (name x))", "(match 1 (clause (pwild) (num 1)))", "(match 0 (clause (pwild) (num 1)))", "(match 0 (clause (num 1)))", "(match 2 (name x) (clause (pwild) (num 1)))", "(match 2 (name x) (clause (pwild) (pwild) (num 1)))",
		"(match 1 (name x) (clause (pwild) (pwild) (num 1)))", "(match 1 (name x) (clause (pwild) (num 1)) (clause (pwild) (pwild) (num 1)))", "(match 1 (name x) (clause (pwild) (num 1)) (name x))", "(match 1 (clause (pwild) (num 1)) (name x))",
		"(match 1 (name x) (name y) (clause (pwild) (num 1)))", "(match 2 (name x) (name y) (clause (pwild) (num 1)))", "(match 2 (name x) (name y) (clause (pwild) (num 1) (num 1)))", "(match 2 (name x) (clause (pwild) (pwild) (num 1)) (name y))",
		"(view 1 (name x))", "(view 0 (clause (num 1)))", "(view 1 (name x) (clause (pwild) (pwild) (num 1)))", "(view 3 (name x) (name y) (clause (pwild) (pwild) (pwild) (num 1)))",
		"(clause)", "(clause (num 1))", "(clause (pwild))", "(clause (num 1) (pwild))", "(clause (pwild) (num 1) (pwild))", "(clause (pwild) (num 1) (num 1))", "(clause (type T) (num 1))",
		"(copy)", "(copy (name x) (name x))", "(copy (pname x))", "(pwild (pwild))", "(pname x (pname x))", "(pnum 1 (pnum 1))", "(pcon C (name x))", "(pcon C (pwild) (build C))",
		"(copy (match 2 (name x) (clause (pwild) (name x))))", "(copy (build C (type T)))",
	} {
		if plainCheck(read(text)) == api.OK {
			t.Errorf("%s is valid", text)
		}
		checkCheck(t, read(text), api.ErrForm)
	}
}

// TestTexts has texts at each kind of leaf.
func TestTexts(t *testing.T) {
	keywords := strings.Fields("module import data fun read let in if then else match view with end copy")
	names := []string{"x", "a", "z", "lets", "le", "modul", "xYZ_019", "a_", "type", "int", strings.Repeat("z", api.MaxName), "x" + strings.Repeat("9", api.MaxName-1)}
	uppers := []string{"X", "A", "Z", "Let", "LET", "Int", "Xyz_019", "A_", strings.Repeat("Z", api.MaxName), "X" + strings.Repeat("_", api.MaxName-1)}
	others := []string{" ", "_", "_x", "1", "1x", "-", "x-", "x y", " x", "x ", "x\n", "x\x00", "é", "xé", "x\xff", "\xff", "X.", "{x", "`x", "@X", "[X", strings.Repeat("z", api.MaxName+1), strings.Repeat("Z", api.MaxName+1), strings.Repeat("z", 2*api.MaxSource)}
	for kind := 1; kind < Kinds; kind++ {
		wanted := [...][]string{{""}, names, uppers}[strings.Index(" aA", kindOfText(kind))]
		for _, text := range slices.Concat(keywords, names, uppers, others, []string{""}) {
			want := api.ErrForm
			if slices.Contains(wanted, text) {
				want = api.OK
			}
			checkCheck(t, changed(read(samples[kind]), 0, func(l *api.Leaf) { l.Text = text }), want)
			inner := with(read("(copy (name x))"), read(samples[kind]))
			checkCheck(t, changed(inner, 2, func(l *api.Leaf) { l.Text = text }), api.ErrForm)
		}
	}
}

// kindOfText returns a letter like the first one of the texts of a kind, or a space.
func kindOfText(kind int) string {
	switch kind {
	case Module, Import, Fun, Param, Name, Apply, Let, PName:
		return "a"
	case Data, Con, Type, Build, PCon:
		return "A"
	}
	return " "
}

// TestNums has numbers at each kind of leaf.
func TestNums(t *testing.T) {
	nums := []int64{math.MinInt64, -1 << 32, -2, -1, 0, 1, 2, 6, 7, 8, 9, 64, 1 << 32, 1<<32 + 1, math.MaxInt64 - 1, math.MaxInt64}
	for kind := 1; kind < Kinds; kind++ {
		for _, num := range nums {
			want := api.ErrForm
			switch kind {
			case Num, PNum:
				want = api.OK
			case Param:
				if num == 0 || num == 1 {
					want = api.OK
				}
			case Binary:
				if num >= api.Add && num <= api.Equal {
					want = api.OK
				}
			case Match, View:
				if num == 1 {
					want = api.OK
				}
			default:
				if num == 0 {
					want = api.OK
				}
			}
			checkCheck(t, changed(read(samples[kind]), 0, func(l *api.Leaf) { l.Num = num }), want)
		}
	}
}

func TestKindsOfLeaves(t *testing.T) {
	for _, kind := range []int{math.MinInt, -64, -1, 0, Kinds, Kinds + 1, 63, 64, 65, 64 + Name, 1 << 32, math.MaxInt} {
		checkCheck(t, api.Tree{Leaves: []api.Leaf{{Kind: kind}}}, api.ErrForm)
		checkCheck(t, api.Tree{Leaves: []api.Leaf{{Kind: kind, Text: "x"}}}, api.ErrForm)
		for leaf := range read(large).Leaves {
			checkCheck(t, changed(read(large), leaf, func(l *api.Leaf) { l.Kind = kind }), api.ErrForm)
		}
	}
}

func TestSpans(t *testing.T) {
	for _, c := range []struct {
		from, to int
		e        api.Errno
	}{
		{0, 0, api.OK}, {0, 1, api.OK}, {5, 5, api.OK}, {0, api.MaxSource, api.OK}, {api.MaxSource, api.MaxSource, api.OK},
		{-1, 0, api.ErrForm}, {-1, -1, api.ErrForm}, {1, 0, api.ErrForm}, {api.MaxSource, api.MaxSource - 1, api.ErrForm}, {0, api.MaxSource + 1, api.ErrForm},
		{api.MaxSource + 1, api.MaxSource + 1, api.ErrForm}, {math.MinInt, math.MaxInt, api.ErrForm}, {0, math.MinInt, api.ErrForm}, {math.MaxInt, math.MaxInt, api.ErrForm},
	} {
		for _, text := range append(samples[1:], large) {
			tree := read(text)
			for leaf := range tree.Leaves {
				checkCheck(t, changed(tree, leaf, func(l *api.Leaf) { l.At = api.Span{From: c.from, To: c.to} }), c.e)
			}
		}
	}
}

// TestRoots has roots that are no leaves, are kids, or do not reach all leaves.
func TestRoots(t *testing.T) {
	checkCheck(t, api.Tree{}, api.ErrForm)
	checkCheck(t, api.Tree{Root: -1}, api.ErrForm)
	for _, text := range append(samples[1:], large) {
		tree := read(text)
		for _, root := range []int{math.MinInt, -1, len(tree.Leaves), len(tree.Leaves) + 1, math.MaxInt} {
			tree.Root = root
			checkCheck(t, tree, api.ErrForm)
		}
		for root := 1; root < len(tree.Leaves); root++ {
			tree.Root = root
			checkCheck(t, tree, api.ErrForm)
		}
	}
	name := api.Leaf{Kind: Name, Text: "x"}
	copyOf := func(kids ...int) api.Leaf { return api.Leaf{Kind: Copy, Kids: kids} }
	for _, tree := range []api.Tree{
		{Leaves: []api.Leaf{copyOf(0)}}, {Leaves: []api.Leaf{copyOf(1), copyOf(0)}}, {Leaves: []api.Leaf{copyOf(1), copyOf(0)}, Root: 1}, {Leaves: []api.Leaf{name, copyOf(2), copyOf(1)}},
		{Leaves: []api.Leaf{name, copyOf(1)}}, {Leaves: []api.Leaf{name, copyOf(0)}}, {Leaves: []api.Leaf{name, name}}, {Leaves: []api.Leaf{copyOf(2), name, name}},
		{Leaves: []api.Leaf{copyOf(1), copyOf(2), copyOf(1)}}, {Leaves: []api.Leaf{{Kind: Build, Text: "C", Kids: []int{0}}}}, {Leaves: []api.Leaf{{Kind: Build, Text: "C", Kids: []int{1, 0}}, name}},
	} {
		checkCheck(t, tree, api.ErrForm)
	}
	checkCheck(t, api.Tree{Leaves: []api.Leaf{name, copyOf(0)}, Root: 1}, api.OK)
	checkCheck(t, api.Tree{Leaves: []api.Leaf{copyOf(2), name, copyOf(1)}}, api.OK)
}

// TestKidsOfTwo has leaves that are kids of two leaves, and kids that are no leaves.
func TestKidsOfTwo(t *testing.T) {
	tree := read("(binary 0 (copy (name x)) (copy (name y)))")
	checkCheck(t, tree, api.OK)
	for _, kid := range []int{math.MinInt, -1, 0, 1, 2, 3, 5, 6, math.MaxInt} {
		checkCheck(t, changed(tree, 3, func(l *api.Leaf) { l.Kids[0] = kid }), api.ErrForm)
		// The leaf that nothing reaches any more is removed.
		fewer := changed(tree, 3, func(l *api.Leaf) { l.Kids[0] = kid })
		fewer.Leaves = fewer.Leaves[:4]
		checkCheck(t, fewer, api.ErrForm)
	}
	twice := api.Tree{Leaves: []api.Leaf{{Kind: Build, Text: "C", Kids: []int{1, 1}}, {Kind: Num}}}
	checkCheck(t, twice, api.ErrForm)
	twice.Leaves[0].Kids = twice.Leaves[0].Kids[:1]
	checkCheck(t, twice, api.OK)
	twice.Leaves[0].Kids = slices.Repeat([]int{1}, 1<<20)
	checkCheck(t, twice, api.ErrForm)
}

func TestMostNodes(t *testing.T) {
	checkCheck(t, wide(api.MaxNodes-1, "(num 1)"), api.OK)
	tooMany := wide(api.MaxNodes, "(num 1)")
	checkCheck(t, tooMany, api.ErrMany)
	// ErrMany precedes everything else.
	tooMany.Root = -1
	checkCheck(t, tooMany, api.ErrMany)
	checkCheck(t, api.Tree{Leaves: make([]api.Leaf, api.MaxNodes)}, api.ErrForm)
	checkCheck(t, api.Tree{Leaves: make([]api.Leaf, api.MaxNodes+1)}, api.ErrMany)
	checkCheck(t, chain(api.MaxNodes), api.ErrMany)
	// Not all leaves are reached.
	checkCheck(t, api.Tree{Leaves: slices.Repeat([]api.Leaf{{Kind: Num}}, api.MaxNodes+1)}, api.ErrMany)
}

func TestGreatestDepth(t *testing.T) {
	checkCheck(t, chain(api.MaxDepth), api.OK)
	for _, depth := range []int{api.MaxDepth + 1, 2 * api.MaxDepth, api.MaxNodes - 1} {
		deep := chain(depth)
		checkCheck(t, deep, api.ErrDeep)
		// ErrForm precedes ErrDeep, whatever is wrong and wherever it is.
		for _, leaf := range []int{0, 1, api.MaxDepth, api.MaxDepth + 1, depth} {
			checkCheck(t, changed(deep, leaf, func(l *api.Leaf) { l.Kind = Kinds }), api.ErrForm)
			checkCheck(t, changed(deep, leaf, func(l *api.Leaf) { l.Text += "-" }), api.ErrForm)
			checkCheck(t, changed(deep, leaf, func(l *api.Leaf) { l.Num = 1 }), api.ErrForm)
			checkCheck(t, changed(deep, leaf, func(l *api.Leaf) { l.Kids = []int{leaf} }), api.ErrForm)
			checkCheck(t, changed(deep, leaf, func(l *api.Leaf) { l.At.From = -1 }), api.ErrForm)
			checkCheck(t, changed(deep, leaf, func(l *api.Leaf) { l.Kids = append(l.Kids, depth) }), api.ErrForm)
		}
	}
	// Only one kid is too deep, the first or the last one.
	for _, depth := range []int{api.MaxDepth - 1, api.MaxDepth} {
		text, e := Dump(chain(depth))
		if e != api.OK {
			t.Fatalf("the chain with the depth %d has no text: %d", depth, e)
		}
		want := api.OK
		if depth == api.MaxDepth {
			want = api.ErrDeep
		}
		checkCheck(t, read("(binary 0 (num 1) "+text+")"), want)
		checkCheck(t, read("(binary 0 "+text+" (num 1))"), want)
		checkCheck(t, read("(if (num 1) "+text+" (num 1))"), want)
	}
	// Patterns and clauses count, too.
	for _, depth := range []int{api.MaxDepth - 2, api.MaxDepth - 1} {
		pattern := strings.Repeat("(pcon C ", depth) + "(pwild)" + strings.Repeat(")", depth)
		want := api.OK
		if depth == api.MaxDepth-1 {
			want = api.ErrDeep
		}
		checkCheck(t, read("(match 1 (name x) (clause "+pattern+" (name x)))"), want)
	}
}

// TestDisturbed compares trees that are changed at one place with a plain check.
func TestDisturbed(t *testing.T) {
	d := newDrawn(1)
	count := map[api.Errno]int{}
	for range 20000 {
		tree := d.mixed(read(d.text()))
		checkCheck(t, tree, api.OK)
		tree = d.disturbed(tree)
		want := plainCheck(tree)
		checkCheck(t, tree, want)
		count[want]++
		if want != api.OK {
			leaf := d.Intn(len(tree.Leaves))
			checkKids(t, tree, leaf, nil)
			checkSubError(t, tree, leaf, want)
			checkDump(t, tree, "", want)
			checkSame(t, tree, tree, false)
		}
	}
	if count[api.OK] < 1000 || count[api.ErrForm] < 1000 {
		t.Errorf("too few trees are valid, or not valid: %v", count)
	}
}

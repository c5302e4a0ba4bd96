package syntax

import (
	"fmt"
	"math/rand"
	"reflect"
	"regexp"
	"slices"
	"strconv"
	"strings"
	"testing"

	"cellarer/api"
)

// kinds has the name of each kind at its index.
var kinds = strings.Fields("? module import data con fun param type name num apply build binary let if match view clause copy pwild pname pnum pcon")

// samples has for each kind the text of a smallest valid tree.
var samples = []string{
	Module: "(module m)", Import: "(import m (name x))", Data: "(data D (con C))", Con: "(con C)", Fun: "(fun f (type T) (name x))",
	Param: "(param x 0 (type T))", Type: "(type T)", Name: "(name x)", Num: "(num 7)", Apply: "(apply f (name x))", Build: "(build C)",
	Binary: "(binary 0 (name x) (name y))", Let: "(let x (name y) (name z))", If: "(if (name x) (name y) (name z))",
	Match: "(match 1 (name x) (clause (pwild) (name y)))", View: "(view 1 (name x) (clause (pwild) (name y)))", Clause: "(clause (pwild) (name x))",
	Copy: "(copy (name x))", PWild: "(pwild)", PName: "(pname x)", PNum: "(pnum -7)", PCon: "(pcon C)",
}

// large is a tree that has all kinds.
const large = "(module list (import base (name id) (name append)) (import other (name f)) (data List (con Nil) (con Cons (type Int) (type List))) " +
	"(fun f (param xs 1 (type List)) (param n 0 (type Int)) (type Int) (let y (binary 7 (apply g (num -1) (copy (name xs))) (num 9223372036854775807)) " +
	"(if (name y) (view 2 (name xs) (num 0) (clause (pcon Cons (pname x) (pwild)) (pnum -9223372036854775808) (name x)) (clause (pwild) (pwild) (num 2))) " +
	"(match 1 (build Cons (num 1) (build Nil)) (clause (pcon Nil) (num 0)) (clause (pname z) (name z)))))) (data U (con U)))"

var spaced = strings.NewReplacer("(", " ( ", ")", " ) ")

// read returns the tree of a text, with its leaves in preorder. The text may be that of a tree that is not valid: a word of a leaf is its Num if it is a number, and otherwise its Text.
func read(text string) api.Tree {
	var t api.Tree
	words := strings.Fields(spaced.Replace(text))
	var open []int
	for i := 0; i < len(words); i++ {
		switch n, err := strconv.ParseInt(words[i], 10, 64); {
		case words[i] == "(":
			i++
			if len(open) > 0 {
				parent := &t.Leaves[open[len(open)-1]]
				parent.Kids = append(parent.Kids, len(t.Leaves))
			}
			open = append(open, len(t.Leaves))
			t.Leaves = append(t.Leaves, api.Leaf{Kind: slices.Index(kinds, words[i]), At: api.Span{From: len(t.Leaves), To: 2 * len(words)}})
		case words[i] == ")":
			open = open[:len(open)-1]
		case err == nil:
			t.Leaves[open[len(open)-1]].Num = n
		default:
			t.Leaves[open[len(open)-1]].Text = words[i]
		}
	}
	return t
}

// clone returns a copy of a tree that shares no memory with it.
func clone(t api.Tree) api.Tree {
	t.Leaves = slices.Clone(t.Leaves)
	for i := range t.Leaves {
		t.Leaves[i].Kids = slices.Clone(t.Leaves[i].Kids)
	}
	return t
}

// changed returns a tree of which one leaf is changed.
func changed(t api.Tree, leaf int, change func(l *api.Leaf)) api.Tree {
	t = clone(t)
	change(&t.Leaves[leaf])
	return t
}

// wide returns the tree of a Build with a number of kids without kids.
func wide(kids int, kid string) api.Tree {
	return read("(build C" + strings.Repeat(kid, kids) + ")")
}

// chain returns a tree of Copies, whose greatest depth is that of a Name.
func chain(depth int) api.Tree {
	return read(strings.Repeat("(copy ", depth) + "(name x)" + strings.Repeat(")", depth))
}

// brief returns a value for a message, for which it may be too long.
func brief(v any) string {
	text := fmt.Sprint(v)
	return text[:min(len(text), 500)]
}

func checkCheck(t *testing.T, tree api.Tree, want api.Errno) {
	t.Helper()
	if e := Check(tree); e != want {
		t.Fatalf("Check(%s) is %d, want %d", brief(tree), e, want)
	}
}

func checkDump(t *testing.T, tree api.Tree, want string, wantError api.Errno) {
	t.Helper()
	if got, e := Dump(tree); got != want || e != wantError {
		t.Fatalf("Dump(%s) is %s, %d, want %s, %d", brief(tree), brief(got), e, brief(want), wantError)
	}
}

func checkKids(t *testing.T, tree api.Tree, leaf int, want []int) {
	t.Helper()
	if got := Kids(tree, leaf); !slices.Equal(got, want) {
		t.Fatalf("Kids(%s, %d) is %v, want %v", brief(tree), leaf, got, want)
	}
}

func checkSub(t *testing.T, tree api.Tree, leaf int, want api.Tree) {
	t.Helper()
	got, e := Sub(tree, leaf)
	if e != api.OK || got.Root != 0 || !slices.EqualFunc(got.Leaves, want.Leaves, equalLeaf) {
		t.Fatalf("Sub(%s, %d) is %s, %d, want %s", brief(tree), leaf, brief(got), e, brief(want))
	}
}

func checkSubError(t *testing.T, tree api.Tree, leaf int, want api.Errno) {
	t.Helper()
	if got, e := Sub(tree, leaf); e != want || got.Root != 0 || len(got.Leaves) > 0 {
		t.Fatalf("Sub(%s, %d) is %s, %d, want %d", brief(tree), leaf, brief(got), e, want)
	}
}

func checkSame(t *testing.T, a, b api.Tree, want bool) {
	t.Helper()
	if Same(a, b) != want || Same(b, a) != want {
		t.Fatalf("Same of %s and %s is %v and %v, want %v", brief(a), brief(b), Same(a, b), Same(b, a), want)
	}
}

// equalLeaf reports whether two leaves are equal, where no kids may be nil or empty.
func equalLeaf(a, b api.Leaf) bool {
	return slices.Equal(a.Kids, b.Kids) && reflect.DeepEqual(api.Leaf{Kind: a.Kind, Text: a.Text, Num: a.Num, At: a.At}, api.Leaf{Kind: b.Kind, Text: b.Text, Num: b.Num, At: b.At})
}

// plainForms has for each kind what its Text and its Num in decimal are, and which letters the kinds of its kids have: A is a Module, and V a PCon.
var plainForms = func() [Kinds][3]*regexp.Regexp {
	const name, upper = "[a-z][A-Za-z0-9_]{0,31}", "[A-Z][A-Za-z0-9_]{0,31}"
	texts := [Kinds][3]string{
		Module: {name, "0", "B*[CE]*"}, Import: {name, "0", "H+"}, Data: {upper, "0", "D+"}, Con: {upper, "0", "G*"}, Fun: {name, "0", "F*G[H-PR]"},
		Param: {name, "[01]", "G"}, Type: {upper, "0", ""}, Name: {name, "0", ""}, Num: {"", ".*", ""}, Apply: {name, "0", "[H-PR]+"}, Build: {upper, "0", "[H-PR]*"},
		Binary: {"", "[0-7]", "[H-PR]{2}"}, Let: {name, "0", "[H-PR]{2}"}, If: {"", "0", "[H-PR]{3}"}, Match: {"", "[1-9].*", "[H-PR]+Q+"}, View: {"", "[1-9].*", "[H-PR]+Q+"},
		Clause: {"", "0", "[S-V]+[H-PR]"}, Copy: {"", "0", "[H-PR]"}, PWild: {"", "0", ""}, PName: {name, "0", ""}, PNum: {"", ".*", ""}, PCon: {upper, "0", "[S-V]*"},
	}
	var out [Kinds][3]*regexp.Regexp
	for kind, l := range texts {
		for i, text := range l {
			out[kind][i] = regexp.MustCompile("^(" + text + ")$")
		}
	}
	return out
}()

// plainCheck checks a tree as the chapter says it.
func plainCheck(t api.Tree) api.Errno {
	if len(t.Leaves) > api.MaxNodes {
		return api.ErrMany
	}
	parents := make([][]int, len(t.Leaves))
	for i, l := range t.Leaves {
		for _, kid := range l.Kids {
			if kid < 0 || kid >= len(t.Leaves) {
				return api.ErrForm
			}
			parents[kid] = append(parents[kid], i)
		}
	}
	if t.Root < 0 || t.Root >= len(t.Leaves) || len(parents[t.Root]) > 0 {
		return api.ErrForm
	}
	e := api.OK
	for i, l := range t.Leaves {
		depth := 0
		for leaf := i; leaf != t.Root; leaf = parents[leaf][0] {
			if depth++; len(parents[leaf]) != 1 || depth > len(t.Leaves) {
				return api.ErrForm
			}
		}
		if depth > api.MaxDepth {
			e = api.ErrDeep
		}
		if !plainForm(t, l) {
			return api.ErrForm
		}
	}
	return e
}

func plainForm(t api.Tree, l api.Leaf) bool {
	letters, clauses := "", 0
	for _, kid := range l.Kids {
		k := t.Leaves[kid]
		if k.Kind < 1 || k.Kind >= Kinds {
			return false
		}
		letters += string(rune('A' + k.Kind - 1))
		if k.Kind == Clause {
			clauses++
			if int64(len(k.Kids)) != l.Num+1 {
				return false
			}
		}
	}
	if l.Kind < 1 || l.Kind >= Kinds || slices.Contains(strings.Fields("module import data fun read let in if then else match view with end copy"), l.Text) {
		return false
	}
	for i, text := range []string{l.Text, strconv.FormatInt(l.Num, 10), letters} {
		if !plainForms[l.Kind][i].MatchString(text) {
			return false
		}
	}
	isCounted := l.Kind != Match && l.Kind != View || int64(len(l.Kids)-clauses) == l.Num
	return isCounted && 0 <= l.At.From && l.At.From <= l.At.To && l.At.To <= api.MaxSource
}

// drawn makes trees.
type drawn struct{ *rand.Rand }

func newDrawn(seed int64) drawn {
	return drawn{rand.New(rand.NewSource(seed))}
}

func (d drawn) of(texts ...string) string {
	return texts[d.Intn(len(texts))]
}

func (d drawn) name() string  { return d.of("x", "y", "lets", "a_1", strings.Repeat("n", api.MaxName)) }
func (d drawn) upper() string { return d.of("C", "D", "Nil", "X_1", strings.Repeat("N", api.MaxName)) }

func (d drawn) num() string {
	return d.of("0", "1", "-1", "42", "9223372036854775807", "-9223372036854775808")
}

// several returns up to three texts, and no less than least.
func (d drawn) several(least int, text func() string) string {
	out := ""
	for range least + d.Intn(4-least) {
		out += " " + text()
	}
	return out
}

// expr returns the text of an expression that is not much deeper than depth.
func (d drawn) expr(depth int) string {
	next := func() string { return d.expr(depth - 1 - d.Intn(2)) }
	if depth <= 0 {
		return d.of("(name "+d.name()+")", "(num "+d.num()+")", "(build "+d.upper()+")")
	}
	switch d.Intn(8) {
	case 0:
		return "(apply " + d.name() + d.several(1, next) + ")"
	case 1:
		return "(build " + d.upper() + d.several(0, next) + ")"
	case 2:
		return "(binary " + strconv.Itoa(d.Intn(api.Prims)) + " " + next() + " " + next() + ")"
	case 3:
		return "(let " + d.name() + " " + next() + " " + next() + ")"
	case 4:
		return "(if " + next() + " " + next() + " " + next() + ")"
	case 5:
		return "(copy " + next() + ")"
	}
	n := 1 + d.Intn(2)
	clauses := d.several(1, func() string { return d.clause(n, depth-1) })
	return "(" + d.of("match ", "view ") + strconv.Itoa(n) + strings.Repeat(" "+next(), n) + clauses + ")"
}

func (d drawn) clause(n, depth int) string {
	out := "(clause"
	for range n {
		out += " " + d.pattern(depth)
	}
	return out + " " + d.expr(depth) + ")"
}

func (d drawn) pattern(depth int) string {
	if depth <= 0 || d.Intn(2) == 0 {
		return d.of("(pwild)", "(pname "+d.name()+")", "(pnum "+d.num()+")", "(pcon "+d.upper()+")")
	}
	return "(pcon " + d.upper() + d.several(0, func() string { return d.pattern(depth - 1) }) + ")"
}

func (d drawn) module() string {
	kind := func() string { return "(type " + d.upper() + ")" }
	param := func() string { return "(param " + d.name() + d.of(" 0 ", " 1 ") + kind() + ")" }
	imported := func() string {
		return "(import " + d.name() + d.several(1, func() string { return "(name " + d.name() + ")" }) + ")"
	}
	return "(module " + d.name() + d.several(0, imported) + d.several(0, func() string {
		if d.Intn(2) == 0 {
			return "(data " + d.upper() + d.several(1, func() string { return "(con " + d.upper() + d.several(0, kind) + ")" }) + ")"
		}
		return "(fun " + d.name() + d.several(0, param) + " " + kind() + " " + d.expr(3) + ")"
	}) + ")"
}

// text returns the text of a valid tree.
func (d drawn) text() string {
	switch d.Intn(4) {
	case 0:
		return d.module()
	case 1:
		return d.pattern(3)
	case 2:
		return d.clause(1+d.Intn(3), 3)
	}
	return d.expr(4)
}

// mixed returns a tree with its leaves in another order, and with other ranges.
func (d drawn) mixed(t api.Tree) api.Tree {
	order := d.Perm(len(t.Leaves))
	out := api.Tree{Leaves: make([]api.Leaf, len(t.Leaves)), Root: order[t.Root]}
	for i, l := range clone(t).Leaves {
		for j, kid := range l.Kids {
			l.Kids[j] = order[kid]
		}
		l.At.From = d.Intn(api.MaxSource + 1)
		l.At.To = l.At.From + d.Intn(api.MaxSource+1-l.At.From)
		out.Leaves[order[i]] = l
	}
	return out
}

// disturbed returns a tree that is changed at one place.
func (d drawn) disturbed(t api.Tree) api.Tree {
	t = clone(t)
	i := d.Intn(len(t.Leaves))
	l := &t.Leaves[i]
	index := d.Intn(len(t.Leaves)+3) - 1
	at := d.Intn(len(l.Kids) + 1)
	switch d.Intn(10) {
	case 0:
		l.Kind = d.Intn(Kinds+2) - 1
	case 1:
		l.Text = d.of("", "x", "X", "let", "Let", "x-", "_x", "1x", "é", "x"+strings.Repeat("y", api.MaxName), "x y", "x\n")
	case 2:
		l.Num = int64(d.Intn(12) - 2)
	case 3:
		l.Kids = slices.Insert(l.Kids, at, index)
	case 4:
		if at < len(l.Kids) {
			l.Kids[at] = index
		}
	case 5:
		l.Kids = l.Kids[:at]
	case 6:
		d.Shuffle(len(l.Kids), func(i, j int) { l.Kids[i], l.Kids[j] = l.Kids[j], l.Kids[i] })
	case 7:
		l.At = api.Span{From: d.Intn(5) - 1, To: d.Intn(5) - 1 + d.Intn(2)*(api.MaxSource-2)}
	case 8:
		t.Root = index
	case 9:
		t.Leaves = append(t.Leaves, t.Leaves[i])
	}
	return t
}

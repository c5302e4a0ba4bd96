package parser

import (
	"math/rand"
	"slices"
	"strconv"
	"strings"
	"testing"

	"cellarer/api"
	"cellarer/syntax"
	"cellarer/token"
)

// part is a leaf with its kids, and the numbers of its first token and of the one behind its last.
type part struct {
	kind     int
	text     string
	num      int64
	kids     []*part
	from, to int
}

// derived makes sources by the grammar, with the trees that they have.
type derived struct {
	*rand.Rand
	out    strings.Builder
	tokens []api.Span
	last   string // the last token
}

func newDerived(seed int64) *derived {
	return &derived{Rand: rand.New(rand.NewSource(seed))}
}

func (d *derived) of(texts ...string) string {
	return texts[d.Intn(len(texts))]
}

// word adds a token, and returns it.
func (d *derived) word(text string) string {
	gap := d.of(" ", " ", "  ", "\n", "\t \r\n", " -- let ( 1\n", " --\n--- end\n ")
	if d.Intn(2) == 0 && (strings.Contains("(),|", d.last) || strings.Contains("(),|", text)) {
		gap = ""
	}
	d.out.WriteString(gap + text)
	d.tokens = append(d.tokens, api.Span{From: d.out.Len() - len(text), To: d.out.Len()})
	d.last = text
	return text
}

func (d *derived) words(text string) {
	for word := range strings.FieldsSeq(text) {
		d.word(word)
	}
}

// begin returns a leaf that begins with the next token.
func (d *derived) begin(kind int) *part {
	return &part{kind: kind, from: len(d.tokens)}
}

// end ends a leaf with the last token.
func (d *derived) end(p *part) *part {
	p.to = len(d.tokens)
	return p
}

func (d *derived) name() string {
	return d.word(d.of("x", "y", "lets", "a_1", strings.Repeat("n", api.MaxName)))
}

func (d *derived) upper() string {
	return d.word(d.of("C", "D", "Nil", "X_1", strings.Repeat("N", api.MaxName)))
}

// number adds a number, with a sign only where it may have one.
func (d *derived) number() int64 {
	text := d.of("0", "1", "042", "9223372036854775807")
	last := d.last
	if last == "" || token.Keyword(last) || strings.Contains(" < <= == + - * / % ( , | -> = ", " "+last+" ") {
		text = d.of(text, "-1", "-0", "-007", "-9223372036854775808")
	}
	n, _ := strconv.ParseInt(d.word(text), 10, 64)
	return n
}

// leaf adds a leaf of a single token.
func (d *derived) leaf(kind int) *part {
	p := d.begin(kind)
	switch kind {
	case syntax.Name, syntax.PName:
		p.text = d.name()
	case syntax.Build, syntax.PCon, syntax.Type:
		p.text = d.upper()
	case syntax.Num, syntax.PNum:
		p.num = d.number()
	case syntax.PWild:
		d.word("_")
	}
	return d.end(p)
}

// enclosed adds something in one or more parentheses.
func (d *derived) enclosed(inner func() *part) *part {
	count := 1 + d.Intn(2)*d.Intn(2)
	d.words(strings.Repeat("( ", count))
	p := inner()
	d.words(strings.Repeat(") ", count))
	return p
}

func (d *derived) expr(depth int) *part {
	if depth <= 0 {
		return d.binary(depth)
	}
	switch d.Intn(6) {
	case 0:
		p := d.begin(syntax.Let)
		d.word("let")
		p.text = d.name()
		d.word("=")
		value := d.expr(depth - 1)
		d.word("in")
		p.kids = []*part{value, d.expr(depth - 1)}
		return d.end(p)
	case 1:
		p := d.begin(syntax.If)
		for _, word := range []string{"if", "then", "else"} {
			d.word(word)
			p.kids = append(p.kids, d.expr(depth-1))
		}
		return d.end(p)
	case 2:
		return d.match(syntax.Match, "match", depth)
	case 3:
		return d.match(syntax.View, "view", depth)
	}
	return d.binary(depth)
}

func (d *derived) match(kind int, word string, depth int) *part {
	p := d.begin(kind)
	n := 1 + d.Intn(3)
	p.num = int64(n)
	for i := range n {
		d.word([]string{word, ",", ","}[i])
		p.kids = append(p.kids, d.expr(depth-2))
	}
	d.word("with")
	for range 1 + d.Intn(3) {
		d.word("|")
		c := d.begin(syntax.Clause)
		for i := range n {
			if i > 0 {
				d.word(",")
			}
			c.kids = append(c.kids, d.pattern(2))
		}
		d.word("->")
		c.kids = append(c.kids, d.expr(depth-1))
		p.kids = append(p.kids, d.end(c))
	}
	d.word("end")
	return d.end(p)
}

func (d *derived) binary(depth int) *part {
	p := d.begin(syntax.Binary)
	left := d.sum(depth)
	if d.Intn(5) > 0 {
		return left
	}
	i := d.Intn(3)
	d.word([]string{"<", "<=", "=="}[i])
	p.num = []int64{api.Less, api.Most, api.Equal}[i]
	p.kids = []*part{left, d.sum(depth)}
	return d.end(p)
}

func (d *derived) sum(depth int) *part {
	return d.chain(func() *part { return d.product(depth) }, []string{"+", "-"}, []int64{api.Add, api.Sub})
}

func (d *derived) product(depth int) *part {
	return d.chain(func() *part { return d.apply(depth) }, []string{"*", "/", "%"}, []int64{api.Mul, api.Div, api.Mod})
}

func (d *derived) chain(operand func() *part, operators []string, operations []int64) *part {
	from := len(d.tokens)
	left := operand()
	for d.Intn(4) == 0 {
		i := d.Intn(len(operators))
		d.word(operators[i])
		left = &part{kind: syntax.Binary, num: operations[i], kids: []*part{left, operand()}, from: from}
		d.end(left)
	}
	return left
}

func (d *derived) apply(depth int) *part {
	p := d.begin(syntax.Apply)
	switch d.Intn(5) {
	case 0:
		p.text = d.name()
	case 1:
		p.kind = syntax.Build
		p.text = d.upper()
	case 2:
		p.kind = syntax.Copy
		d.word("copy")
		p.kids = []*part{d.atom(depth)}
		return d.end(p)
	default:
		return d.atom(depth)
	}
	for range 1 + d.Intn(2) {
		p.kids = append(p.kids, d.atom(depth))
	}
	return d.end(p)
}

func (d *derived) atom(depth int) *part {
	if depth > 0 && d.Intn(3) == 0 {
		return d.enclosed(func() *part { return d.expr(depth - 1) })
	}
	return d.leaf([]int{syntax.Name, syntax.Build, syntax.Num}[d.Intn(3)])
}

func (d *derived) pattern(depth int) *part {
	if d.Intn(2) == 0 {
		return d.patternAtom(depth)
	}
	p := d.begin(syntax.PCon)
	p.text = d.upper()
	for range d.Intn(3) {
		p.kids = append(p.kids, d.patternAtom(depth))
	}
	return d.end(p)
}

func (d *derived) patternAtom(depth int) *part {
	if depth > 0 && d.Intn(3) == 0 {
		return d.enclosed(func() *part { return d.pattern(depth - 1) })
	}
	return d.leaf([]int{syntax.PName, syntax.PWild, syntax.PNum, syntax.PCon}[d.Intn(4)])
}

func (d *derived) module() *part {
	p := d.begin(syntax.Module)
	d.word("module")
	p.text = d.name()
	for range d.Intn(3) {
		p.kids = append(p.kids, d.imports())
	}
	for range d.Intn(4) {
		if d.Intn(2) == 0 {
			p.kids = append(p.kids, d.data())
		} else {
			p.kids = append(p.kids, d.fun())
		}
	}
	return d.end(p)
}

func (d *derived) imports() *part {
	p := d.begin(syntax.Import)
	d.word("import")
	p.text = d.name()
	d.word("(")
	p.kids = append(p.kids, d.leaf(syntax.Name))
	for range d.Intn(3) {
		d.word(",")
		p.kids = append(p.kids, d.leaf(syntax.Name))
	}
	d.word(")")
	return d.end(p)
}

func (d *derived) data() *part {
	p := d.begin(syntax.Data)
	d.word("data")
	p.text = d.upper()
	for i := range 1 + d.Intn(3) {
		d.word([]string{"=", "|", "|"}[i])
		c := d.begin(syntax.Con)
		c.text = d.upper()
		for range d.Intn(3) {
			c.kids = append(c.kids, d.leaf(syntax.Type))
		}
		p.kids = append(p.kids, d.end(c))
	}
	return d.end(p)
}

func (d *derived) fun() *part {
	p := d.begin(syntax.Fun)
	d.word("fun")
	p.text = d.name()
	for range d.Intn(3) {
		param := d.begin(syntax.Param)
		d.word("(")
		if d.Intn(2) == 0 {
			d.word("read")
			param.num = 1
		}
		param.text = d.name()
		d.word(":")
		param.kids = []*part{d.leaf(syntax.Type)}
		d.word(")")
		p.kids = append(p.kids, d.end(param))
	}
	d.word(":")
	p.kids = append(p.kids, d.leaf(syntax.Type))
	d.word("=")
	p.kids = append(p.kids, d.expr(2))
	return d.end(p)
}

// source returns a source, with white space at its end, and its tree.
func (d *derived) source(start func() *part) (string, api.Tree) {
	d.out.Reset()
	d.tokens, d.last = nil, ""
	root := start()
	d.out.WriteString(d.of("", " ", "\n-- the end", "--"))
	var tree api.Tree
	var add func(p *part) int
	add = func(p *part) int {
		i := len(tree.Leaves)
		tree.Leaves = append(tree.Leaves, api.Leaf{Kind: p.kind, Text: p.text, Num: p.num, At: api.Span{From: d.tokens[p.from].From, To: d.tokens[p.to-1].To}})
		for _, kid := range p.kids {
			tree.Leaves[i].Kids = append(tree.Leaves[i].Kids, add(kid))
		}
		return i
	}
	add(root)
	return d.out.String(), tree
}

// equalLeaf reports whether two leaves are equal, where no kids may be nil or empty.
func equalLeaf(a, b api.Leaf) bool {
	return a.Kind == b.Kind && a.Text == b.Text && a.Num == b.Num && a.At == b.At && slices.Equal(a.Kids, b.Kids)
}

// checkDerived checks a source with its tree and its ranges, and all that follows from it.
func checkDerived(t *testing.T, read reading, src string, want api.Tree) {
	t.Helper()
	got, at, e := read(src)
	if e != api.OK || at != 0 || got.Root != 0 || !slices.EqualFunc(got.Leaves, want.Leaves, equalLeaf) {
		t.Fatalf("%s has the tree %s, %d, %d, want %s", brief(src), brief(got), at, e, brief(want))
	}
	if e := syntax.Check(got); e != api.OK {
		t.Fatalf("%s has the tree %s, which is not valid: %d", brief(src), brief(got), e)
	}
	for leaf, l := range got.Leaves {
		for _, kid := range l.Kids {
			if k := got.Leaves[kid]; k.At.From < l.At.From || k.At.To > l.At.To {
				t.Fatalf("%s has the kid %s of %s", brief(src), brief(k), brief(l))
			}
		}
		if l.Kind < syntax.Name || l.Kind > syntax.Copy || l.Kind == syntax.Clause {
			continue
		}
		// The bytes of an expression have the tree of the expression.
		sub, _ := syntax.Sub(got, leaf)
		inner, at, e := Expr(src[l.At.From:l.At.To])
		if e != api.OK || at != 0 || !syntax.Same(inner, sub) {
			t.Fatalf("%s at %v has the tree %s, %d, %d, want %s", brief(src), l.At, brief(inner), at, e, brief(sub))
		}
	}
	// White space and comments change only ranges.
	tokens, _, _, _ := token.Scan(src)
	joined, e := token.Join(tokens)
	if e != api.OK {
		t.Fatalf("%s cannot be joined: %d", brief(src), e)
	}
	if other, _, e := read(joined); e != api.OK || !syntax.Same(other, got) {
		t.Fatalf("%s has the tree %s, %d, want %s", brief(joined), brief(other), e, brief(got))
	}
}

// TestDerived has random sources of all productions.
func TestDerived(t *testing.T) {
	d := newDerived(1)
	kinds := [syntax.Kinds]int{}
	for range 1500 {
		src, want := d.source(func() *part { return d.expr(3) })
		checkDerived(t, Expr, src, want)
		src, want = d.source(d.module)
		checkDerived(t, Parse, src, want)
		for _, l := range want.Leaves {
			kinds[l.Kind]++
		}
	}
	for kind := 1; kind < syntax.Kinds; kind++ {
		if kinds[kind] < 300 {
			t.Errorf("the kind %d occurs only %d times", kind, kinds[kind])
		}
	}
}

// TestDisturbed has sources of which one token is removed, put twice, or replaced, and compares with the grammar of the chapter.
func TestDisturbed(t *testing.T) {
	d := newDerived(2)
	g := fullGrammar()
	starts := map[bool]chart{true: begun(g, "module"), false: begun(g, "expr")}
	wrong := 0
	for range 3000 {
		isModule := d.Intn(2) == 0
		read, start := Expr, func() *part { return d.expr(2) }
		if isModule {
			read, start = Parse, d.module
		}
		src, _ := d.source(start)
		at := d.tokens[d.Intn(len(d.tokens))]
		src = src[:at.From] + d.of("", " "+src[at.From:at.To]+" "+src[at.From:at.To]+" ", " "+d.of(alphabet...)+" ", " "+d.of(alphabet...)+" "+src[at.From:at.To]+" ") + src[at.To:]
		if _, _, _, e := token.Scan(src); e != api.OK || len(d.tokens) > 150 {
			continue
		}
		c, want := starts[isModule].behind(src)
		if _, ok := c.after("end"); want < 0 && !ok {
			want = len(src)
		}
		if want >= 0 {
			wrong++
			checkError(t, read, src, want, api.ErrSyntax)
		} else if _, at, e := read(src); at != 0 || e != api.OK {
			t.Fatalf("%s returns %d, %d", brief(src), at, e)
		}
	}
	if wrong < 1000 {
		t.Errorf("only %d sources are wrong", wrong)
	}
}

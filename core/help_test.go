package core

import (
	"fmt"
	"reflect"
	"slices"
	"strings"
	"testing"

	"cellarer/api"
	"cellarer/datas"
)

// types are the lines of the data types of most tests: recursive ones, a flat one, and ones that contain several others.
const types = `data List = Nil | Cons Int List
data Tree = Leaf | Node Tree List Tree
data Color = Red | Green | Blue
data Pair = Pair List Color | None
data Mirror = Empty | Full Int Mirror
`

// The types of these lines.
const (
	listType   = 2
	treeType   = 3
	colorType  = 4
	pairType   = 5
	mirrorType = 6
)

// read returns the program of types and a text. The numbers of its nodes are those of their lines.
func read(t *testing.T, text string) api.Program {
	t.Helper()
	p, at, e := plainParse(types + text)
	if e != api.OK {
		t.Fatalf("the text has the error %d at %d: %s", e, at, text)
	}
	return p
}

// clone returns a copy of a program that shares no memory with it, and whose slices have spare capacity.
func clone(p api.Program) api.Program {
	p.Datas = grown(p.Datas)
	for i := range p.Datas {
		data := &p.Datas[i]
		data.Cons = grown(data.Cons)
		for j := range data.Cons {
			data.Cons[j].Fields = grown(data.Cons[j].Fields)
		}
	}
	p.Funs = grown(p.Funs)
	for i := range p.Funs {
		f := &p.Funs[i]
		f.Vars, f.Code = grown(f.Vars), grown(f.Code)
		for j := range f.Code {
			f.Code[j] = cloneNode(f.Code[j])
		}
	}
	return p
}

func cloneNode(n api.Node) api.Node {
	n.Args, n.More, n.Branches = grown(n.Args), grown(n.More), grown(n.Branches)
	for i := range n.Branches {
		n.Branches[i].Binds = grown(n.Branches[i].Binds)
	}
	return n
}

// grown returns a copy of a list with spare capacity.
func grown[T any](list []T) []T {
	return append(make([]T, 0, len(list)+2), list...)
}

// changed returns a changed copy of a program.
func changed(p api.Program, change func(p *api.Program)) api.Program {
	p = clone(p)
	change(&p)
	return p
}

// changedNode returns a copy of a program in which a node of a function is changed.
func changedNode(p api.Program, fun, node int, change func(n *api.Node)) api.Program {
	return changed(p, func(p *api.Program) { change(&p.Funs[fun].Code[node]) })
}

// brief returns a value for a message, for which it may be too long.
func brief(v any) string {
	text := fmt.Sprint(v)
	return text[:min(len(text), 1000)]
}

func checkFun(t *testing.T, p api.Program, fun, wantNode int, want api.Errno) {
	t.Helper()
	if node, e := CheckFun(p, fun); node != wantNode || e != want {
		t.Fatalf("CheckFun(%s, %d) is %d, %d, want %d, %d", brief(p), fun, node, e, wantNode, want)
	}
}

func checkCheck(t *testing.T, p api.Program, want api.Errno) {
	t.Helper()
	if e := Check(p); e != want {
		t.Fatalf("Check(%s) is %d, want %d", brief(p), e, want)
	}
	if want != api.OK {
		checkText(t, p, "", api.ErrForm)
	}
}

func checkText(t *testing.T, p api.Program, want string, wantError api.Errno) {
	t.Helper()
	if got, e := Text(p); got != want || e != wantError {
		t.Fatalf("Text(%s) is %q, %d, want %q, %d", brief(p), brief(got), e, brief(want), wantError)
	}
}

func checkParse(t *testing.T, text string, want api.Program, wantAt int, wantError api.Errno) {
	t.Helper()
	got, at, e := Parse(text)
	if fmt.Sprint(got) != fmt.Sprint(want) || at != wantAt || e != wantError {
		t.Fatalf("Parse(%q) is %s, %d, %d, want %s, %d, %d", brief(text), brief(got), at, e, brief(want), wantAt, wantError)
	}
}

// checkParseError checks that a text is rejected, and that the plain parser agrees.
func checkParseError(t *testing.T, text string, at int, want api.Errno) {
	t.Helper()
	checkParse(t, text, api.Program{}, at, want)
	if _, plainAt, e := plainParse(text); plainAt != at || e != want {
		t.Fatalf("the plain error of %q is %d at %d, want %d at %d", brief(text), e, plainAt, want, at)
	}
}

// fields are the fields of the chapter's table, with the number of Args where it has one.
var fields = [...]string{
	api.Ret: "Args1", api.Num: "Var Num Next", api.Prim: "Var Num Args2 Next", api.Make: "Var Con Args Next", api.Copy: "Var Args1 Next", api.Drop: "Args1 Next",
	api.Call: "Var Fun Args Next", api.Tail: "Fun Args", api.Hole: "Con Num Args Fun More", api.Match: "Args1 Take Branches",
}

// plainForm reports whether a node has only fields that belong to its operation.
func plainForm(n api.Node) bool {
	if n.Op < 0 || n.Op >= len(fields) {
		return false
	}
	words := strings.Fields(fields[n.Op])
	v := reflect.ValueOf(n)
	for i := range v.NumField() {
		name := v.Type().Field(i).Name
		isZero := v.Field(i).IsZero() || v.Field(i).Kind() == reflect.Slice && v.Field(i).Len() == 0
		if name != "Op" && !isZero && !slices.ContainsFunc(words, func(word string) bool { return strings.Trim(word, "12") == name }) {
			return false
		}
	}
	return !slices.Contains(words, "Args1") && !slices.Contains(words, "Args2") || slices.Contains(words, fmt.Sprint("Args", len(n.Args)))
}

// plainKids returns the kids of a node.
func plainKids(n api.Node) []int {
	switch n.Op {
	case api.Num, api.Prim, api.Make, api.Copy, api.Drop, api.Call:
		return []int{n.Next}
	case api.Match:
		var kids []int
		for _, b := range n.Branches {
			kids = append(kids, b.Then)
		}
		return kids
	}
	return nil
}

// plainUses returns the variables that a node uses.
func plainUses(n api.Node) []int {
	switch n.Op {
	case api.Ret, api.Prim, api.Make, api.Copy, api.Drop, api.Call, api.Tail, api.Match:
		return n.Args
	case api.Hole:
		var uses []int
		for _, list := range [][]int{n.Args, n.More} {
			for _, v := range list {
				if v >= 0 {
					uses = append(uses, v)
				}
			}
		}
		return uses
	}
	return nil
}

// plainBinds returns the variables that a node binds.
func plainBinds(n api.Node) []int {
	switch n.Op {
	case api.Num, api.Prim, api.Make, api.Copy, api.Call:
		return []int{n.Var}
	case api.Match:
		var binds []int
		for _, b := range n.Branches {
			binds = append(binds, b.Binds...)
		}
		return binds
	}
	return nil
}

// step is a node of a function on its way from the root: the step before it, and the variables that are bound between them.
type step struct {
	node   int
	before *step
	binds  []int
}

// plainCheckFun checks a function as the chapter says it.
func plainCheckFun(p api.Program, fun int) (int, api.Errno) {
	if fun < 0 || fun >= len(p.Funs) {
		return 0, api.ErrRange
	}
	f := p.Funs[fun]
	if e := plainHead(p, fun); e != api.OK || f.Extern {
		return map[bool]int{true: -1}[e != api.OK], e
	}
	var done []api.Node
	work := []*step{{node: f.Body}}
	for len(work) > 0 {
		s := work[len(work)-1]
		work = work[:len(work)-1]
		n := f.Code[s.node]
		if e := plainNode(p, f, n, s, done); e != api.OK {
			return s.node, e
		}
		done = append(done, n)
		if n.Op == api.Match {
			for _, b := range slices.Backward(n.Branches) {
				work = append(work, &step{b.Then, s, b.Binds})
			}
		} else if len(plainKids(n)) > 0 {
			work = append(work, &step{n.Next, s, plainBinds(n)})
		}
	}
	kids, binds := []int{f.Body}, []int{}
	for _, n := range done {
		kids, binds = append(kids, plainKids(n)...), append(binds, plainBinds(n)...)
	}
	for node := range f.Code {
		if !slices.Contains(kids, node) {
			return node, api.ErrForm
		}
	}
	for v := f.Params; v < len(f.Vars); v++ {
		if !slices.Contains(binds, v) {
			return -1, api.ErrForm
		}
	}
	return 0, api.OK
}

// plainHead checks what is not about nodes.
func plainHead(p api.Program, fun int) api.Errno {
	f := p.Funs[fun]
	isType := func(t api.Type) bool { return t >= 0 && t <= api.Type(len(p.Datas)) }
	if !plainFunName.MatchString(f.Name) {
		return api.ErrForm
	}
	for _, g := range p.Funs[:fun] {
		if g.Name == f.Name {
			return api.ErrTwice
		}
	}
	if f.Params > 6 || len(f.Vars) > 512 || len(f.Code) > 4096 {
		return api.ErrMany
	}
	if f.Params < 0 || f.Params > len(f.Vars) {
		return api.ErrForm
	}
	if f.Extern && (f.Params != len(f.Vars) || len(f.Code) != 0 || f.Body != 0) || !f.Extern && (f.Body < 0 || f.Body >= len(f.Code)) {
		return api.ErrForm
	}
	for _, v := range f.Vars {
		if !isType(v.Type) {
			return api.ErrType
		}
	}
	if !isType(f.Result) {
		return api.ErrType
	}
	for _, v := range f.Vars {
		if v.Read && datas.Flat(p.Datas, v.Type) {
			return api.ErrMode
		}
	}
	return api.OK
}

// plainNode checks a node behind others.
func plainNode(p api.Program, f api.Fun, n api.Node, s *step, done []api.Node) api.Errno {
	if !plainForm(n) {
		return api.ErrForm
	}
	var scope []int
	for v := range f.Params {
		scope = append(scope, v)
	}
	for ; s != nil; s = s.before {
		scope = append(scope, s.binds...)
	}
	for _, v := range plainUses(n) {
		if !slices.Contains(scope, v) {
			return api.ErrNone
		}
	}
	for _, v := range plainBinds(n) {
		if v < 0 || v >= len(f.Vars) {
			return api.ErrRange
		}
	}
	calls := n.Op == api.Call || n.Op == api.Tail || n.Op == api.Hole
	if calls && (n.Fun < 0 || n.Fun >= len(p.Funs)) || n.Op == api.Prim && (n.Num < 0 || n.Num > 7) {
		return api.ErrRange
	}
	kids, bound := []int{f.Body}, []int{}
	for _, before := range done {
		kids, bound = append(kids, plainKids(before)...), append(bound, plainBinds(before)...)
	}
	for _, v := range plainBinds(n) {
		if v < f.Params || slices.Contains(bound, v) {
			return api.ErrTwice
		}
		bound = append(bound, v)
	}
	if !plainTypes(p, f, n) {
		return api.ErrType
	}
	for _, v := range plainBinds(n) {
		isRead := n.Op == api.Match && !n.Take && !datas.Flat(p.Datas, f.Vars[v].Type)
		if f.Vars[v].Read != isRead {
			return api.ErrMode
		}
	}
	for _, kid := range plainKids(n) {
		if kid < 0 || kid >= len(f.Code) || slices.Contains(kids, kid) {
			return api.ErrForm
		}
		kids = append(kids, kid)
	}
	return api.OK
}

// typesOf returns the types of variables. That of one that does not exist is -1.
func typesOf(f api.Fun, vars ...int) []api.Type {
	var types []api.Type
	for _, v := range vars {
		if v < 0 || v >= len(f.Vars) {
			types = append(types, -1)
		} else {
			types = append(types, f.Vars[v].Type)
		}
	}
	return types
}

// have reports whether variables have types.
func have(f api.Fun, vars []int, want ...api.Type) bool {
	got := typesOf(f, vars...)
	return slices.Equal(got, want) && !slices.Contains(got, -1)
}

// fieldsOf returns the types of the fields of a constructor, if it exists.
func fieldsOf(p api.Program, t api.Type, con int) ([]api.Type, bool) {
	if t < 1 || con < 0 || con >= len(p.Datas[t-1].Cons) {
		return nil, false
	}
	return p.Datas[t-1].Cons[con].Fields, true
}

// haveParams reports whether variables have the types of the parameters of a function. No list has a negative number of variables.
func haveParams(f, called api.Fun, vars []int) bool {
	var params []int
	for v := range min(max(called.Params, 0), 600) {
		params = append(params, v)
	}
	return called.Params >= 0 && have(f, vars, typesOf(called, params...)...)
}

// plainTypes checks the conditions on types of the chapter's table.
func plainTypes(p api.Program, f api.Fun, n api.Node) bool {
	typeOf := func(v int) api.Type { return typesOf(f, v)[0] }
	flat := func(v int) bool { return datas.Flat(p.Datas, typeOf(v)) }
	switch n.Op {
	case api.Ret:
		return have(f, n.Args, f.Result)
	case api.Num:
		return typeOf(n.Var) == 0
	case api.Prim:
		return have(f, n.Args, 0, 0) && typeOf(n.Var) == map[bool]api.Type{false: 0, true: 1}[n.Num >= 5]
	case api.Make:
		list, ok := fieldsOf(p, typeOf(n.Var), n.Con)
		return ok && have(f, n.Args, list...)
	case api.Copy:
		return typeOf(n.Var) == typeOf(n.Args[0]) && !flat(n.Args[0])
	case api.Drop:
		return !flat(n.Args[0])
	case api.Call:
		return haveParams(f, p.Funs[n.Fun], n.Args) && typeOf(n.Var) == p.Funs[n.Fun].Result
	case api.Tail:
		return haveParams(f, p.Funs[n.Fun], n.Args) && f.Result == p.Funs[n.Fun].Result
	case api.Hole:
		list, ok := fieldsOf(p, f.Result, n.Con)
		if !ok || len(n.Args) != len(list) || n.Num < 0 || n.Num >= int64(len(list)) || n.Args[n.Num] != -1 || list[n.Num] != p.Funs[n.Fun].Result {
			return false
		}
		hole := int(n.Num)
		return haveParams(f, p.Funs[n.Fun], n.More) && have(f, slices.Concat(n.Args[:hole], n.Args[hole+1:]), slices.Concat(list[:hole], list[hole+1:])...)
	}
	t := typeOf(n.Args[0])
	if t < 1 || n.Take && flat(n.Args[0]) || len(n.Branches) != len(p.Datas[t-1].Cons) {
		return false
	}
	for con, b := range n.Branches {
		if !have(f, b.Binds, p.Datas[t-1].Cons[con].Fields...) {
			return false
		}
	}
	return true
}

// plainCheck checks a program.
func plainCheck(p api.Program) api.Errno {
	if e := datas.Check(p.Datas); e != api.OK {
		return e
	}
	if len(p.Funs) > 128 {
		return api.ErrMany
	}
	for fun := range p.Funs {
		if _, e := plainCheckFun(p, fun); e != api.OK {
			return e
		}
	}
	return api.OK
}

// plainText returns the text of a valid program, however long it is.
func plainText(p api.Program) string {
	name := func(t api.Type) string {
		if t == 0 {
			return "Int"
		}
		return p.Datas[t-1].Name
	}
	var out []string
	for _, data := range p.Datas[1:] {
		text := "data " + data.Name + " ="
		for i, c := range data.Cons {
			if i > 0 {
				text += " |"
			}
			text += " " + c.Name
			for _, field := range c.Fields {
				text += " " + name(field)
			}
		}
		out = append(out, text)
	}
	for _, f := range p.Funs {
		text := map[bool]string{false: "fun ", true: "extern "}[f.Extern] + f.Name + "("
		for v := range f.Params {
			text += map[bool]string{true: ", "}[v > 0] + map[bool]string{true: "read "}[f.Vars[v].Read] + fmt.Sprintf("v%d: %s", v, name(f.Vars[v].Type))
		}
		out = append(out, text+"): "+name(f.Result))
		if !f.Extern {
			out = append(out, plainLines(p, f, f.Body, "  ")...)
		}
	}
	return strings.Join(append(out, ""), "\n")
}

// plainLines returns the lines of a node and of those that follow it.
func plainLines(p api.Program, f api.Fun, node int, indent string) []string {
	n := f.Code[node]
	list := func(vars []int) string {
		text := ""
		for _, v := range vars {
			text += fmt.Sprintf(" v%d", v)
		}
		return strings.ReplaceAll(text, " v-1", " _")
	}
	con := func(t api.Type, con int) string { return p.Datas[t-1].Cons[con].Name }
	head := fmt.Sprintf("%sv%d = ", indent, n.Var)
	var line string
	switch n.Op {
	case api.Ret:
		line = indent + "ret" + list(n.Args)
	case api.Num:
		line = fmt.Sprint(head, n.Num)
	case api.Prim:
		line = head + strings.Fields("add sub mul div mod less most equal")[n.Num] + list(n.Args)
	case api.Make:
		line = head + con(f.Vars[n.Var].Type, n.Con) + list(n.Args)
	case api.Copy:
		line = head + "copy" + list(n.Args)
	case api.Drop:
		line = indent + "drop" + list(n.Args)
	case api.Call:
		line = head + "call " + p.Funs[n.Fun].Name + list(n.Args)
	case api.Tail:
		line = indent + "tail " + p.Funs[n.Fun].Name + list(n.Args)
	case api.Hole:
		line = indent + "hole " + con(f.Result, n.Con) + list(n.Args) + " : " + p.Funs[n.Fun].Name + list(n.More)
	case api.Match:
		line = indent + map[bool]string{false: "read", true: "take"}[n.Take] + list(n.Args)
	}
	out := []string{line}
	if n.Op == api.Match {
		for i, b := range n.Branches {
			out = append(out, indent+"| "+con(f.Vars[n.Args[0]].Type, i)+list(b.Binds))
			out = append(out, plainLines(p, f, b.Then, indent+"  ")...)
		}
	} else if len(plainKids(n)) > 0 {
		out = append(out, plainLines(p, f, n.Next, indent)...)
	}
	return out
}

package rename

import (
	"fmt"
	"math"
	"regexp"
	"slices"
	"strings"
	"testing"

	"cellarer/api"
	"cellarer/core"
)

// variable is a variable of a text.
var variable = regexp.MustCompile(`\bv[0-9]+\b`)

// graftText grafts a function of a text at a node of another one, with the Call's Args and Var, and returns the code of the result as a text without indentation, and the origins.
func graftText(t *testing.T, text string, fun, node, other int) (string, string) {
	t.Helper()
	p := read(t, text)
	call := p.Funs[fun].Code[node]
	f, origins, e := Graft(p.Funs[fun], node, p.Funs[other], call.Args, call.Var)
	if e != api.OK {
		t.Fatalf("Graft is the error %d", e)
	}
	want, wantOrigins := plainGraft(grafting{p.Funs[fun], node, p.Funs[other], call.Args, call.Var})
	checkGraft(t, grafting{p.Funs[fun], node, p.Funs[other], call.Args, call.Var}, want, wantOrigins, api.OK)
	p.Funs[fun] = f
	_, code, _ := strings.Cut(textOf(t, p), f.Name+"(")
	code, _, _ = strings.Cut(code, "\nfun ")
	var lines []string
	for _, line := range strings.Split(strings.TrimSpace(code), "\n")[1:] {
		lines = append(lines, strings.TrimSpace(line))
	}
	return strings.Join(lines, "; "), fmt.Sprint(origins)
}

func checkGraftText(t *testing.T, text string, fun, node, other int, want, wantOrigins string) {
	t.Helper()
	if got, origins := graftText(t, text, fun, node, other); got != want || origins != wantOrigins {
		t.Errorf("the result of grafting is\n%s, %s, want\n%s, %s", got, origins, want, wantOrigins)
	}
}

// TestGraft has grafts with one result, several ones and none, with Tails, and in the middle of other nodes.
func TestGraft(t *testing.T) {
	// The second example of the chapter.
	checkGraftText(t, "fun g(v0: Int): Int\n  ret v0\nfun f(v0: Int): Int\n  v1 = call g v0\n  ret v1\n", 1, 0, 0, "ret v0", "[1]")
	const caller = `fun f(v0: List, v1: Int): Int
  v2 = 1
  v3 = call g v1 v2
  v4 = add v3 v0
  v5 = mul v3 v4
  ret v5
`
	flat := strings.ReplaceAll(caller, "List", "Int")
	checkGraftText(t, flat+"fun g(v0: Int, v1: Int): Int\n  ret v1\n", 0, 1, 1, "v2 = 1; v3 = add v2 v0; v4 = mul v2 v3; ret v4", "[0 2 3 4]")
	checkGraftText(t, flat+"fun g(v0: Int, v1: Int): Int\n  v3 = sub v1 v0\n  v2 = mul v3 v1\n  ret v3\n", 0, 1, 1,
		"v2 = 1; v3 = sub v2 v1; v4 = mul v3 v2; v5 = add v3 v0; v6 = mul v3 v5; ret v6", "[0 -1 -2 2 3 4]")
	checkGraftText(t, flat+"fun g(v0: Int, v1: Int): Int\n  v2 = sub v1 v0\n  tail f v2 v1\n", 0, 1, 1,
		"v2 = 1; v3 = sub v2 v1; v4 = call f v3 v2; v5 = add v4 v0; v6 = mul v4 v5; ret v6", "[0 -1 -2 2 3 4]")
	// Two results: what follows the Call is copied for each.
	checkGraftText(t, flat+"fun g(v0: Int, v1: Int): Int\n  v2 = less v0 v1\n  read v2\n  | False\n    v3 = 7\n    ret v3\n  | True\n    tail f v1 v0\n", 0, 1, 1,
		"v2 = 1; v3 = less v1 v2; read v3; | False; v4 = 7; v5 = add v4 v0; v6 = mul v4 v5; ret v6; | True; v7 = call f v2 v1; v8 = add v7 v0; v9 = mul v7 v8; ret v9",
		"[0 -1 -2 -3 2 3 4 -5 2 3 4]")
	// The Call is in one of several branches, and what follows it has branches, too.
	const branched = `fun f(v0: List): List
  take v0
  | Nil
    v1 = Nil
    v2 = call g v1
    read v2
    | Nil
      ret v2
    | Cons v3 v4
      v5 = Cons v3 v1
      hole Cons v3 _ : g v4
  | Cons v6 v7
    tail g v7
fun g(v0: List): List
  take v0
  | Nil
    v1 = Nil
    ret v1
  | Cons v2 v3
    ret v3
`
	checkGraftText(t, branched, 0, 2, 1,
		"take v0; | Nil; v1 = Nil; take v1; | Nil; v2 = Nil; read v2; | Nil; ret v2; | Cons v3 v4; v5 = Cons v3 v1; hole Cons v3 _ : g v4; | Cons v6 v7; read v7; | Nil; ret v7; | Cons v8 v9; v10 = Cons v8 v1; hole Cons v8 _ : g v9; | Cons v11 v12; tail g v12",
		"[0 1 -1 -2 3 4 5 6 3 4 5 6 7]")
	// A function in its own place.
	checkGraftText(t, "fun f(v0: Int): Int\n  v1 = 5\n  v2 = call f v1\n  ret v2\n", 0, 1, 0, "v1 = 5; v2 = 5; v3 = call f v2; ret v3", "[0 -1 -2 2]")
}

// TestGraftFields has what is not of the operations, and code that is not valid.
func TestGraftFields(t *testing.T) {
	full := func(n api.Node) api.Node {
		n.Con, n.Num, n.Take, n.Branches = 6, 7, true, []api.Branch{{Binds: []int{1}, Then: 1}}
		return n
	}
	f := api.Fun{Name: "f", Result: 9, Params: 1, Vars: []api.Var{{Type: 1, Read: true}, {Type: 2, Read: true}, {Type: 3}}, Code: []api.Node{
		full(api.Node{Op: api.Num, Var: 2, Args: []int{0, 2}, Next: 1}), full(api.Node{Op: api.Call, Var: 1, Fun: 8, Next: 2}), full(api.Node{Op: 77, Var: 1, Args: []int{1, 2}, Next: 1})}}
	g := api.Fun{Name: "g", Result: 5, Params: 2, Vars: []api.Var{{Type: 4}, {Type: 5}}, Code: []api.Node{full(api.Node{Op: api.Tail, Var: 1, Args: []int{1, 0, 1}, Fun: -4, Next: 5})}}
	want := api.Fun{Name: "f", Result: 9, Params: 1, Vars: []api.Var{{Type: 1, Read: true}, {Type: 3}, {Type: 5}}, Code: []api.Node{
		full(api.Node{Op: api.Num, Var: 1, Args: []int{0, 2}, Next: 1}), {Op: api.Call, Var: 2, Args: []int{0, 1, 0}, Fun: -4, Next: 2}, full(api.Node{Op: 77, Var: 1, Args: []int{1, 2}, Next: 1})}}
	checkGraft(t, grafting{f, 1, g, []int{2, 0}, 1}, changed(want, func(f *api.Fun) { f.Code[1].Args = []int{0, 1, 0} }), []int{0, -1, 2}, api.OK)
	// Where the code of g has no result, what follows the Call is not reached any more.
	for _, n := range []api.Node{full(api.Node{Op: -1, Args: []int{1}}), {Op: api.Match, Args: []int{0}}} {
		g.Code = []api.Node{n}
		last := cloneNode(n)
		if n.Op == api.Match {
			last.Args = []int{1}
		}
		checkGraft(t, grafting{f, 1, g, []int{2, 0}, 1}, api.Fun{Name: "f", Result: 9, Params: 1, Vars: []api.Var{{Type: 1, Read: true}, {Type: 3}}, Code: []api.Node{want.Code[0], last}}, []int{0, -1}, api.OK)
	}
}

// callers returns the function branching with Calls in it, and a function with one parameter.
func callers() (f, g api.Fun) {
	f = branching()
	f.Code[5] = api.Node{Op: api.Call, Var: 2, Args: []int{7}, Fun: 6, Next: 0}
	f.Code[3] = api.Node{Op: api.Call, Var: 8, Args: []int{0}, Next: 2}
	g = api.Fun{Params: 1, Vars: make([]api.Var, 3), Body: 1, Code: []api.Node{{Args: []int{2}}, {Op: api.Copy, Var: 2, Args: []int{0}}, {Op: api.Hole}, {Args: []int{2, 2}}}}
	return f, g
}

// TestGraftErrors has each error with all that follow it.
func TestGraftErrors(t *testing.T) {
	f, g := callers()
	ok := grafting{f, 5, g, []int{3}, 2}
	fine, origins := plainGraft(ok)
	checkGraft(t, ok, fine, origins, api.OK)
	check := func(name string, want api.Errno, change func(x *grafting)) {
		t.Run(name, func(t *testing.T) {
			x := grafting{clone(f), 5, clone(g), []int{3}, 2}
			change(&x)
			checkGraft(t, x, api.Fun{}, nil, want)
		})
	}
	for _, w := range wrongs() {
		bad := changed(branching(), w.change)
		check(w.name, api.ErrForm, func(x *grafting) { *x = grafting{bad, -1, x.g, nil, 9} })
		check(w.name, api.ErrForm, func(x *grafting) { x.g = bad })
		check(w.name, api.ErrForm, func(x *grafting) { *x = grafting{x.f, 99, bad, nil, 9} })
	}
	check("f is extern", api.ErrForm, func(x *grafting) { x.f.Extern, x.node = true, 99 })
	check("g is extern", api.ErrForm, func(x *grafting) { x.g.Extern, x.node = true, 99 })
	for _, node := range []int{math.MinInt, -1, 9, math.MaxInt, 3, 7} {
		check(fmt.Sprint("no node ", node), api.ErrRange, func(x *grafting) { x.node, x.args, x.to = node, nil, 8 })
	}
	for _, node := range []int{0, 1, 2, 4, 6, 8} {
		check(fmt.Sprint("no Call ", node), api.ErrArg, func(x *grafting) { x.node, x.to = node, x.f.Code[node].Var })
	}
	for _, to := range []int{-1, 0, 3, 7, 9, math.MaxInt} {
		check(fmt.Sprint("not the result ", to), api.ErrArg, func(x *grafting) { x.to = to })
	}
	for _, args := range [][]int{nil, {}, {3, 3}, {0, 1, 7}} {
		check(fmt.Sprint("a wrong number of arguments ", args), api.ErrArg, func(x *grafting) { x.args = args })
	}
	for _, v := range []int{math.MinInt, -1, 2, 4, 5, 6, 8, 9, math.MaxInt} {
		check(fmt.Sprint("not in scope ", v), api.ErrArg, func(x *grafting) { x.args = []int{v} })
		check(fmt.Sprint("not in scope either ", v), api.ErrArg, func(x *grafting) { x.g.Params, x.args = 2, []int{0, v} })
	}
	check("a hole", api.ErrArg, func(x *grafting) { x.g.Code[0] = api.Node{Op: api.Hole} })
	check("a hole at the beginning", api.ErrArg, func(x *grafting) { x.g.Body = 2 })
	check("no result", api.ErrArg, func(x *grafting) { x.g.Code[0].Args = nil })
	check("two results", api.ErrArg, func(x *grafting) { x.g.Code[0].Args = []int{2, 0} })
	many := func(x *grafting) {
		x.f.Vars, x.g.Vars = append(x.f.Vars, make([]api.Var, 600)...), make([]api.Var, 600)
	}
	check("a hole, and too many variables", api.ErrArg, func(x *grafting) {
		many(x)
		x.f.Params, x.g.Body = 600, 2
		x.f.Code = []api.Node{{Op: api.Call, Var: 600, Next: 1}, {Op: -1}}
		x.f.Body, x.node, x.to = 0, 0, 600
	})
	// All variables in scope are allowed, and what is not reached is not examined.
	for _, v := range []int{0, 1, 7, 3} {
		x := grafting{f, 5, g, []int{v}, 2}
		want, origins := plainGraft(x)
		checkGraft(t, x, want, origins, api.OK)
	}
}

// TestDrawnGrafts compares drawn grafts with plain ones.
func TestDrawnGrafts(t *testing.T) {
	counts := map[api.Errno]int{}
	copies := 0
	for seed := range int64(30000) {
		r := newDrawn(seed)
		x := r.grafting()
		e := plainGraftError(x)
		var want api.Fun
		var origins []int
		if e == api.OK {
			want, origins = plainGraft(x)
			if !slices.IsSorted(origins) && len(origins) > 3 {
				copies++
			}
			if normal, ok := plainNormal(withoutMore(want)); !ok || !equal(withoutMore(normal), withoutMore(want)) {
				t.Fatalf("the plain result is not in normal form")
			}
		}
		counts[e]++
		checkGraft(t, x, want, origins, e)
	}
	if counts[api.OK] < 3000 || counts[api.ErrArg] < 3000 || counts[api.ErrRange] < 500 || counts[api.ErrForm] < 3000 || copies < 1000 {
		t.Errorf("the drawn grafts have the errors %v, and %d are large", counts, copies)
	}
}

// grafting returns a grafting, which is often allowed.
func (r drawn) grafting() grafting {
	x := grafting{f: r.loose(), g: r.loose()}
	if r.Intn(4) == 0 {
		x.f = r.disturbed(x.f)
	}
	if r.Intn(8) == 0 {
		x.g = r.disturbed(x.g)
	}
	visits, _ := plainVisits(x.f)
	calls := slices.DeleteFunc(visits, func(v visit) bool { return x.f.Code[v.node].Op != api.Call })
	if len(calls) == 0 || r.Intn(10) == 0 {
		x.node, x.args, x.to = r.number(len(x.f.Code)), r.numbers(len(x.f.Vars), max(x.g.Params, 0)%10), r.number(len(x.f.Vars))
		return x
	}
	call := calls[r.Intn(len(calls))]
	x.node, x.to = call.node, x.f.Code[call.node].Var
	var scope []int
	for v := range x.f.Vars {
		if call.inScope(x.f, v) {
			scope = append(scope, v)
		}
	}
	if len(scope) > 0 {
		for range min(x.g.Params, 9) {
			x.args = append(x.args, scope[r.Intn(len(scope))])
		}
	}
	if r.Intn(10) == 0 {
		x.args = append(x.args, r.number(len(x.f.Vars)))
	}
	return x
}

// plainGraftError returns the error of a grafting whose result is not too large.
func plainGraftError(x grafting) api.Errno {
	inF, okF := plainVisits(x.f)
	inG, okG := plainVisits(x.g)
	if !okF || !okG || x.f.Extern || x.g.Extern {
		return api.ErrForm
	}
	at := slices.IndexFunc(inF, func(v visit) bool { return v.node == x.node })
	if at < 0 {
		return api.ErrRange
	}
	n := x.f.Code[x.node]
	if n.Op != api.Call || n.Var != x.to || len(x.args) != x.g.Params {
		return api.ErrArg
	}
	for _, v := range x.args {
		if !inF[at].inScope(x.f, v) {
			return api.ErrArg
		}
	}
	for _, v := range inG {
		if n := x.g.Code[v.node]; n.Op == api.Hole || n.Op == api.Ret && len(n.Args) != 1 {
			return api.ErrArg
		}
	}
	return api.OK
}

// TestGraftsAreValid checks that core.Check accepts a valid program in which a function takes the place of its Calls.
func TestGraftsAreValid(t *testing.T) {
	table := read(t, "")
	count := 0
	for seed := range int64(1500) {
		r := newDrawn(seed)
		p := r.program(table)
		for i, f := range p.Funs {
			for node, n := range f.Code {
				if n.Op != api.Call || p.Funs[n.Fun].Extern || slices.ContainsFunc(p.Funs[n.Fun].Code, func(n api.Node) bool { return n.Op == api.Hole }) {
					continue
				}
				x := grafting{f, node, p.Funs[n.Fun], n.Args, n.Var}
				want, origins := plainGraft(x)
				checkGraft(t, x, want, origins, api.OK)
				q := cloneProgram(p)
				q.Funs[i], _, _ = Graft(f, node, p.Funs[n.Fun], n.Args, n.Var)
				if e := core.Check(q); e != api.OK {
					t.Fatalf("grafting at %d of %s is not valid: %d", node, brief(f), e)
				}
				count++
			}
		}
	}
	if count < 500 {
		t.Errorf("there were only %d grafts", count)
	}
}

// TestGraftsAreNew checks that the arguments are neither changed nor kept, and that results are new.
func TestGraftsAreNew(t *testing.T) {
	f, g := callers()
	f, g = clone(f), clone(g)
	args := append(make([]int, 0, 3), 3)
	before := whole(f) + whole(g) + fmt.Sprint(args[:3])
	first, origins, _ := Graft(f, 5, g, args, 2)
	want := fmt.Sprint(first, origins)
	spoil(first)
	clear(origins)
	second, again, _ := Graft(f, 5, g, args, 2)
	if fmt.Sprint(second, again) != want || whole(f)+whole(g)+fmt.Sprint(args[:3]) != before {
		t.Errorf("Graft changes or keeps an argument")
	}
}

package rename

import (
	"slices"
	"testing"

	"cellarer/api"
	"cellarer/core"
)

// all is a program with every operation.
const all = `extern m.cut(v0: List): List
fun sum(read v0: List, v1: Color): Int
  read v0
  | Nil
    v2 = -7
    ret v2
  | Cons v3 v4
    v5 = call sum v4 v1
    v6 = add v3 v5
    ret v6
fun more(v0: List, v1: Int): List
  v2 = copy v0
  take v0
  | Nil
    drop v2
    v3 = Nil
    v4 = Cons v1 v3
    tail m.cut v4
  | Cons v5 v6
    drop v6
    hole Cons v5 _ : m.cut v2
`

// plainSame is what the chapter says of Same.
func plainSame(a, b api.Program) bool {
	if core.Check(a) != api.OK || core.Check(b) != api.OK || !equal(a.Datas, b.Datas) || len(a.Funs) != len(b.Funs) {
		return false
	}
	for i := range a.Funs {
		f, _ := plainNormal(a.Funs[i])
		g, _ := plainNormal(b.Funs[i])
		if !equal(f, g) {
			return false
		}
	}
	return true
}

// shuffled returns a program whose nodes and variables have other numbers.
func (r drawn) shuffled(p api.Program) api.Program {
	p = cloneProgram(p)
	for i, f := range p.Funs {
		if !f.Extern {
			var params []int
			for v := range f.Params {
				params = append(params, v)
			}
			p.Funs[i] = renumbered(f, r.Perm(len(f.Code)), slices.Concat(params, r.others(&f)))
		}
	}
	return p
}

func changedProgram(p api.Program, change func(p *api.Program)) api.Program {
	p = cloneProgram(p)
	change(&p)
	return p
}

// TestSame has programs that are equal up to the numbers, and programs that differ at one place.
func TestSame(t *testing.T) {
	p := read(t, all)
	for seed := range int64(50) {
		checkSame(t, p, newDrawn(seed).shuffled(p), true)
	}
	checkSame(t, api.Program{Datas: p.Datas}, api.Program{Datas: p.Datas}, true)
	checkSame(t, read(t, "fun f(v0: Int): Int\n  v1 = 1\n  v2 = 2\n  ret v1\n"), read(t, "fun f(v0: Int): Int\n  v2 = 1\n  v1 = 2\n  ret v2\n"), true)
	for i, change := range []func(p *api.Program){
		func(p *api.Program) { p.Datas[1].Name = "Row" },
		func(p *api.Program) { p.Datas[3].Cons[0].Name = "Reed" },
		func(p *api.Program) { p.Datas[2].Cons[1].Fields[1] = 3 },
		func(p *api.Program) {
			p.Datas = append(p.Datas, api.Data{Name: "Unit", Cons: []api.Con{{Name: "Unit"}}})
		},
		func(p *api.Program) { p.Datas[3].Cons = append(p.Datas[3].Cons, api.Con{Name: "Black"}) },
		func(p *api.Program) { p.Funs = p.Funs[:2] },
		func(p *api.Program) { p.Funs[0].Name = "cut" },
		func(p *api.Program) { p.Funs[0].Vars[0].Read = true },
		func(p *api.Program) { p.Funs[1].Vars[1].Type = 2 },
		func(p *api.Program) { p.Funs[1].Code[1].Num = 7 },
		func(p *api.Program) { p.Funs[1].Code[4].Num = api.Sub },
		func(p *api.Program) { p.Funs[1].Code[4].Args[0] = 5 },
		func(p *api.Program) { p.Funs[1].Code[5].Args[0] = 3 },
		func(p *api.Program) { p.Funs[2].Code[5].Fun = 2; p.Funs[2].Code[5].Args = []int{4, 1} },
		func(p *api.Program) { p.Funs[2].Code[7].Con = 0; p.Funs[2].Code[7].Args[0] = 1 },
		func(p *api.Program) { p.Funs[2].Code[7].Args[0] = 1 },
		func(p *api.Program) { p.Funs[2].Code[7].More[0] = 6 },
		func(p *api.Program) { p.Funs[2].Code[7] = api.Node{Op: api.Tail, Args: []int{2}} },
		func(p *api.Program) { p.Funs[2].Code[7] = api.Node{Op: api.Ret, Args: []int{2}} },
		func(p *api.Program) { p.Funs[2].Code[1].Take = false; p.Funs[2].Vars[6].Read = true },
		func(p *api.Program) { p.Funs[2] = p.Funs[0]; p.Funs[2].Name = "more" },
		func(p *api.Program) { p.Funs[0], p.Funs[1] = p.Funs[1], p.Funs[0]; p.Funs[0].Code[3].Fun = 0 },
	} {
		q := changedProgram(p, change)
		checkSame(t, q, newDrawn(int64(i)).shuffled(q), core.Check(q) == api.OK)
		checkSame(t, p, q, false)
	}
}

// TestSameNodes has functions that differ in one field of a node, each of which is another one than the others.
func TestSameNodes(t *testing.T) {
	const head = "data List = Nil | End | Cons Int List\ndata Box = Box Int\nextern a(v0: List): List\nextern b(v0: List): List\nfun f(v0: List, v1: List, v2: Box, v3: Int, v4: Int): List\n"
	var programs []api.Program
	for _, body := range []string{
		"ret v0", "ret v1", "tail a v0", "tail a v1", "tail b v0", "v5 = Nil\n  ret v5", "v5 = End\n  ret v5", "v5 = copy v0\n  ret v5", "v5 = call a v0\n  ret v5", "v5 = call b v0\n  ret v5",
		"drop v0\n  ret v1", "drop v1\n  ret v1", "v5 = 1\n  ret v0", "v5 = 2\n  ret v0", "v5 = add v3 v4\n  ret v0", "v5 = sub v3 v4\n  ret v0", "v5 = add v4 v3\n  ret v0", "v5 = add v3 v3\n  ret v0",
		"take v2\n  | Box v5\n    ret v0", "read v2\n  | Box v5\n    ret v0", "v5 = Cons v3 v0\n  ret v5", "v5 = Cons v4 v0\n  ret v5",
		"hole Cons v3 _ : a v0", "hole Cons v4 _ : a v0", "hole Cons v3 _ : b v0", "hole Cons v3 _ : a v1",
		"v5 = 1\n  v6 = 2\n  v7 = add v5 v6\n  ret v0", "v5 = 1\n  v6 = 2\n  v7 = add v6 v5\n  ret v0",
	} {
		p, at, e := core.Parse(head + "  " + body + "\n")
		if e != api.OK {
			t.Fatalf("%s has the error %d at %d", body, e, at)
		}
		programs = append(programs, p)
	}
	for i, p := range programs {
		for j, q := range programs {
			checkSame(t, p, q, i == j)
		}
	}
}

// TestSameChecks has programs that are equal, but not valid.
func TestSameChecks(t *testing.T) {
	p := read(t, all)
	for _, change := range []func(p *api.Program){
		func(p *api.Program) { p.Datas = nil },
		func(p *api.Program) { p.Datas[1].Cons = nil },
		func(p *api.Program) { p.Funs[0].Name = "" },
		func(p *api.Program) { p.Funs[2].Name = "sum" },
		func(p *api.Program) { p.Funs[1].Result = 1 },
		func(p *api.Program) { p.Funs[1].Vars = append(p.Funs[1].Vars, api.Var{}) },
		func(p *api.Program) { p.Funs[1].Code = append(p.Funs[1].Code, api.Node{}) },
		func(p *api.Program) { p.Funs[0].Vars = append(p.Funs[0].Vars, api.Var{}) },
		func(p *api.Program) { p.Funs[1].Code[1].Con = 1 },
		func(p *api.Program) { p.Funs[2].Code[0].Next = 0 },
		func(p *api.Program) { p.Funs[2].Params = -1 },
	} {
		q := changedProgram(p, change)
		checkSame(t, q, q, false)
		checkSame(t, p, q, false)
	}
	checkSame(t, api.Program{}, api.Program{}, false)
}

// TestDrawnSame compares drawn programs with others whose numbers differ, and which are disturbed at one place.
func TestDrawnSame(t *testing.T) {
	table := read(t, "")
	counts := map[bool]int{}
	for seed := range int64(1000) {
		r := newDrawn(seed)
		p := r.program(table)
		q := r.shuffled(p)
		checkSame(t, p, q, true)
		for range 4 {
			other := cloneProgram(q)
			i := r.Intn(len(other.Funs))
			if f := &other.Funs[i]; len(f.Code) > 0 {
				r.disturbValid(other, f)
			}
			want := plainSame(p, other)
			counts[want]++
			checkSame(t, p, other, want)
		}
	}
	if counts[true] < 500 || counts[false] < 1000 {
		t.Errorf("of the pairs, %v are equal", counts)
	}
}

// disturbValid changes a function such that it often remains valid.
func (r drawn) disturbValid(p api.Program, f *api.Fun) {
	n := &f.Code[r.Intn(len(f.Code))]
	switch r.Intn(5) {
	case 0:
		if len(n.Args) > 0 {
			n.Args[r.Intn(len(n.Args))] = r.Intn(len(f.Vars))
		}
	case 1:
		n.Num ^= int64(r.Intn(2))
	case 2:
		n.Fun = r.Intn(len(p.Funs))
	case 3:
		n.Con ^= r.Intn(2)
	case 4:
		v := r.Intn(len(f.Vars) + 1)
		if v < f.Params {
			f.Vars[v].Read = !f.Vars[v].Read
		}
	}
}

// TestTextsOfNormalForms checks that a program and its normal form are the same, and have the same text but for the numbers of variables;
// and that renumbering does not change what is the same.
func TestTextsOfNormalForms(t *testing.T) {
	table := read(t, "")
	for seed := range int64(2000) {
		r := newDrawn(seed)
		p := r.program(table)
		q := cloneProgram(p)
		for i := range q.Funs {
			q.Funs[i], _ = Normal(q.Funs[i])
			if len(q.Funs[i].Code) != len(p.Funs[i].Code) || len(q.Funs[i].Vars) != len(p.Funs[i].Vars) {
				t.Fatalf("the normal form of a valid function has other nodes: %s", brief(q.Funs[i]))
			}
		}
		if core.Check(q) != api.OK || variable.ReplaceAllString(textOf(t, p), "v") != variable.ReplaceAllString(textOf(t, q), "v") {
			t.Fatalf("the text of %s is not that of its normal form", brief(p))
		}
		checkSame(t, p, q, true)
		// Parse numbers nodes as normal forms do, so that the text of a normal form is read as it.
		if again, _, e := core.Parse(textOf(t, q)); e != api.OK || !equal(again, q) {
			t.Fatalf("the text of a normal form is read as %s, %d, want %s", brief(again), e, brief(q))
		}
	}
}

package callgraph

import (
	"fmt"
	"math/rand"
	"slices"
	"testing"

	"cellarer/api"
	"cellarer/core"
)

// checkAll compares all functions but Keep with the definitions.
func checkAll(t *testing.T, p api.Program) {
	t.Helper()
	x := plainOf(p)
	components := x.components()
	if got := Components(p); !equal(got, components) {
		t.Fatalf("Components(%s) is %v, want %v", brief(p), got, components)
	}
	for fun := -1; fun <= len(p.Funs); fun++ {
		var calls, reached []int
		index, recursive := -1, false
		if fun >= 0 && fun < len(p.Funs) {
			calls, reached = listed(x.calls[fun]), listed(x.reach[fun])
			index = slices.IndexFunc(components, func(c []int) bool { return slices.Contains(c, fun) })
			recursive = x.calls[fun][fun] || len(components[index]) > 1
		}
		if got := Calls(p, fun); !equal(got, calls) {
			t.Fatalf("Calls(%s, %d) is %v, want %v", brief(p), fun, got, calls)
		}
		if got := Component(p, fun); got != index {
			t.Fatalf("Component(%s, %d) is %d, want %d", brief(p), fun, got, index)
		}
		if got := Recursive(p, fun); got != recursive {
			t.Fatalf("Recursive(%s, %d) is %t, want %t", brief(p), fun, got, recursive)
		}
		if got := Reached(p, fun); !equal(got, reached) {
			t.Fatalf("Reached(%s, %d) is %v, want %v", brief(p), fun, got, reached)
		}
	}
}

// checkReached compares Reached, and Keep if all entries are functions, with the definitions.
func checkReached(t *testing.T, p api.Program, entries []int) {
	t.Helper()
	want := plainOf(p).reached(entries)
	if got := Reached(p, entries...); !equal(got, want) {
		t.Fatalf("Reached(%s, %v) is %v, want %v", brief(p), entries, got, want)
	}
	got, numbers, e := Keep(p, entries...)
	if slices.ContainsFunc(entries, func(fun int) bool { return fun < 0 || fun >= len(p.Funs) }) {
		if e != api.ErrRange || !equal(got, api.Program{}) || len(numbers) > 0 {
			t.Fatalf("Keep(%s, %v) is %s, %v, %d, want ErrRange", brief(p), entries, brief(got), numbers, e)
		}
		return
	}
	kept, wantNumbers := plainKeep(p, want)
	if e != api.OK || !equal(got, kept) || !equal(numbers, wantNumbers) {
		t.Fatalf("Keep(%s, %v) is %s, %v, %d, want %s, %v", brief(p), entries, brief(got), numbers, e, brief(kept), wantNumbers)
	}
	if e := core.Check(got); e != api.OK {
		t.Fatalf("Keep(%s, %v) is a program with the error %d", brief(p), entries, e)
	}
}

// plainKeep returns the program with some functions only, and the new numbers of all.
func plainKeep(p api.Program, reached []int) (api.Program, []int) {
	out, numbers := api.Program{Datas: p.Datas}, make([]int, 0)
	for fun := range p.Funs {
		numbers = append(numbers, slices.Index(reached, fun))
	}
	for _, fun := range reached {
		f := p.Funs[fun]
		f.Code = slices.Clone(f.Code)
		for i := range f.Code {
			if n := &f.Code[i]; n.Op == api.Call || n.Op == api.Tail || n.Op == api.Hole {
				n.Fun = numbers[n.Fun]
			}
		}
		out.Funs = append(out.Funs, f)
	}
	return out, numbers
}

// TestExample is the example of the chapter.
func TestExample(t *testing.T) {
	p := programOf(t, [][]int{{1, 2}, {0, 4}, {3}, {3}, {}})
	if got := Components(p); !equal(got, [][]int{{3}, {2}, {4}, {0, 1}}) {
		t.Errorf("the components are %v", got)
	}
	for fun, want := range []bool{true, true, false, true, false} {
		if got := Recursive(p, fun); got != want {
			t.Errorf("Recursive of %d is %t", fun, got)
		}
	}
	if got := Reached(p, 2); !equal(got, []int{2, 3}) {
		t.Errorf("2 reaches %v", got)
	}
	if got, numbers, e := Keep(p, 2); len(got.Funs) != 2 || !equal(numbers, []int{-1, -1, 0, 1, -1}) || e != api.OK {
		t.Errorf("Keep of 2 is %s, %v, %d", brief(got), numbers, e)
	}
	checkAll(t, p)
}

// TestAllSmall has all programs with up to three functions, and with all sets of entries.
func TestAllSmall(t *testing.T) {
	for size := range 4 {
		for bits := range 1 << (size * size) {
			p := programOf(t, graphOfBits(size, bits))
			checkAll(t, p)
			for set := range 1 << size {
				checkReached(t, p, setOfBits(size, set))
			}
		}
	}
}

func setOfBits(size, bits int) []int {
	var out []int
	for i := range size {
		if bits>>i&1 == 1 {
			out = append(out, i)
		}
	}
	return out
}

func graphOfBits(size, bits int) [][]int {
	calls := make([][]int, size)
	for i := range calls {
		calls[i] = setOfBits(size, bits>>(i*size))
	}
	return calls
}

// TestDrawn has programs with more functions, with calls in any order and more than once.
func TestDrawn(t *testing.T) {
	r := rand.New(rand.NewSource(24))
	sizes := map[int]int{}
	for range 1500 {
		size, most := 1+r.Intn(12), 1+r.Intn(4)
		calls := make([][]int, size)
		for i := range calls {
			for range r.Intn(most) {
				calls[i] = append(calls[i], r.Intn(size))
			}
		}
		p := programOf(t, calls)
		checkAll(t, p)
		for _, c := range Components(p) {
			sizes[len(c)]++
		}
		var entries []int
		for range r.Intn(4) {
			entries = append(entries, r.Intn(size))
		}
		checkReached(t, p, entries)
		checkReached(t, p, append(entries, r.Intn(size+2)-1, r.Intn(size+4)-2))
	}
	if len(sizes) < 8 || sizes[1] < 1000 || sizes[2] < 100 {
		t.Errorf("the components have the sizes %v", sizes)
	}
}

// TestOrder has components that are ready at the same time, and ones that have to wait for others with greater numbers.
func TestOrder(t *testing.T) {
	for _, c := range []struct {
		calls [][]int
		want  [][]int
	}{
		{[][]int{{}, {}, {}}, [][]int{{0}, {1}, {2}}},
		{[][]int{{1}, {2}, {}}, [][]int{{2}, {1}, {0}}},
		{[][]int{{3}, {}, {}, {}}, [][]int{{1}, {2}, {3}, {0}}},
		{[][]int{{2}, {}, {}, {}}, [][]int{{1}, {2}, {0}, {3}}}, // 0 comes as soon as it can
		{[][]int{{4}, {3}, {}, {1}, {0, 2}}, [][]int{{1, 3}, {2}, {0, 4}}},
		{[][]int{{4}, {2}, {1}, {}, {3}}, [][]int{{1, 2}, {3}, {4}, {0}}},
		{[][]int{{5, 1}, {0, 3}, {4}, {}, {2}, {5, 4}}, [][]int{{2, 4}, {3}, {5}, {0, 1}}},
		{[][]int{{1}, {2}, {3}, {0}}, [][]int{{0, 1, 2, 3}}},
	} {
		if got := Components(programOf(t, c.calls)); !equal(got, c.want) {
			t.Errorf("the components of %v are %v, want %v", c.calls, got, c.want)
		}
	}
}

// TestCalls has functions that call by each operation, in branches, and more than once.
func TestCalls(t *testing.T) {
	p := parse(t, `extern far(v0: List): List
fun leaf(v0: List): Int
  drop v0
  v1 = 5
  ret v1
fun all(v0: List, v1: Color): List
  read v1
  | Red
    v2 = call all v0 v1
    v3 = call far v2
    ret v3
  | Green
    tail tail v0
  | Blue
    v4 = copy v0
    v5 = call leaf v0
    hole Cons v5 _ : far v4
fun tail(v0: List): List
  tail far v0
fun hole(v0: List): List
  v1 = 3
  hole Cons v1 _ : hole v0
`)
	for fun, want := range [][]int{{}, {}, {0, 1, 2, 3}, {0}, {4}} {
		if got := Calls(p, fun); !equal(got, want) {
			t.Errorf("Calls of %d is %v, want %v", fun, got, want)
		}
	}
	checkAll(t, p)
	for _, entries := range [][]int{nil, {4}, {3}, {2}, {1, 4}, {4, 1, 4, 4}, {0}, {0, 1, 2, 3, 4}, {-1}, {5, 1}, {1, -1 << 62, 1 << 62}} {
		checkReached(t, p, entries)
	}
}

// TestErrors checks what there is for programs that are not valid, and for numbers that are not functions.
func TestErrors(t *testing.T) {
	p := programOf(t, [][]int{{1}, {0}})
	for _, change := range []func(*api.Program){
		func(p *api.Program) { p.Datas = nil },
		func(p *api.Program) { p.Funs[1].Name = "f0" },
		func(p *api.Program) { p.Funs[1].Code[0].Fun = 2 },
		func(p *api.Program) { p.Funs[1].Code[0].Fun = -1 },
		func(p *api.Program) { p.Funs[0].Code = nil },
		func(p *api.Program) { p.Funs[0].Extern = true },
	} {
		bad := programOf(t, [][]int{{1}, {0}})
		change(&bad)
		for fun := -2; fun < 4; fun++ {
			if Calls(bad, fun) != nil || Component(bad, fun) != -1 || Recursive(bad, fun) || len(Reached(bad, fun)) > 0 {
				t.Errorf("there is a result for a program that is not valid")
			}
			if got, numbers, e := Keep(bad, fun); e != api.ErrForm || !equal(got, api.Program{}) || len(numbers) > 0 { // before ErrRange
				t.Errorf("Keep of a program that is not valid is %v, %v, %d", got, numbers, e)
			}
		}
		if len(Components(bad)) > 0 {
			t.Errorf("there are components of a program that is not valid")
		}
		if _, _, e := Keep(bad); e != api.ErrForm {
			t.Errorf("Keep of a program that is not valid has the error %d", e)
		}
	}
	checkAll(t, p)
	checkAll(t, api.Program{Datas: p.Datas})
	checkReached(t, api.Program{Datas: p.Datas}, nil)
	checkReached(t, api.Program{Datas: p.Datas}, []int{0})
}

// TestMost has programs with as many functions as there may be: in a line, in a circle, and all calling each other.
func TestMost(t *testing.T) {
	line, circle, full := make([][]int, api.MaxFuns), make([][]int, api.MaxFuns), make([][]int, api.MaxFuns)
	for i := range api.MaxFuns {
		if i+1 < api.MaxFuns {
			line[i] = []int{i + 1}
		}
		circle[i] = []int{(i + 5) % api.MaxFuns}
		for j := range api.MaxFuns {
			full[i] = append(full[i], (i*7+j*3)%api.MaxFuns)
		}
	}
	for _, calls := range [][][]int{line, circle, full} {
		p := programOf(t, calls)
		checkAll(t, p)
		checkReached(t, p, []int{api.MaxFuns - 1})
		checkReached(t, p, []int{3, api.MaxFuns / 2})
		p.Funs = append(p.Funs, api.Fun{Name: "more", Extern: true})
		if len(Components(p)) > 0 || Component(p, 0) != -1 || len(Reached(p, 0)) > 0 {
			t.Errorf("there are results for too many functions")
		}
		if _, _, e := Keep(p, 0); e != api.ErrForm {
			t.Errorf("Keep of too many functions has the error %d", e)
		}
	}
}

// TestMemory checks that arguments stay as they are, and that results share no memory with them, nor with each other.
func TestMemory(t *testing.T) {
	text := fmt.Sprint
	p := parse(t, `fun f(v0: List): List
  take v0
  | Nil
    v1 = Nil
    ret v1
  | Cons v2 v3
    v4 = call g v2 v3
    hole Cons v2 _ : f v4
fun g(v0: Int, v1: List): List
  v2 = Cons v0 v1
  ret v2
extern far(v0: List): List
`)
	entries := append(make([]int, 0, 4), 0, 0)
	want, wantEntries := text(p), text(entries[:4])
	kept, numbers, _ := Keep(p, entries...)
	again, numbersAgain, _ := Keep(p, entries...)
	components, componentsAgain := Components(p), Components(p)
	before, beforeComponents := text(again, numbersAgain), text(componentsAgain)
	spoil(kept, numbers, components)
	for _, list := range [][]int{Calls(p, 0), Reached(p, entries...)} {
		for i := range list {
			list[i] = -7
		}
	}
	if text(p) != want || text(entries[:4]) != wantEntries {
		t.Errorf("the arguments are changed")
	}
	if text(again, numbersAgain) != before || text(componentsAgain) != beforeComponents {
		t.Errorf("results share memory")
	}
	if text(Calls(p, 0), Reached(p, 1, 0), Components(p)) != "[0 1] [0 1] [[1] [0] [2]]" {
		t.Errorf("the results are not the same again")
	}
}

// spoil overwrites results, with the spare capacity of lists in which others could lie.
func spoil(p api.Program, numbers []int, components [][]int) {
	for _, list := range append(components, numbers) {
		list = list[:cap(list)]
		for i := range list {
			list[i] = -8
		}
	}
	for _, f := range p.Funs {
		for i := range f.Vars[:cap(f.Vars)] {
			f.Vars[:cap(f.Vars)][i] = api.Var{Type: 99}
		}
		for i, n := range f.Code {
			for _, list := range append([][]int{n.Args, n.More}, binds(n)...) {
				for j := range list[:cap(list)] {
					list[:cap(list)][j] = -9
				}
			}
			for j := range n.Branches {
				n.Branches[j] = api.Branch{Then: -9}
			}
			f.Code[i] = api.Node{Op: -9}
		}
	}
	for i, d := range p.Datas {
		for j, c := range d.Cons {
			for k := range c.Fields {
				c.Fields[k] = 99
			}
			d.Cons[j] = api.Con{}
		}
		p.Datas[i] = api.Data{}
	}
}

func binds(n api.Node) [][]int {
	var out [][]int
	for _, b := range n.Branches {
		out = append(out, b.Binds)
	}
	return out
}

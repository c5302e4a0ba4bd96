package eval

import (
	"testing"

	"cellarer/api"
	"cellarer/value"
)

const appendText = `fun append(v0: List, v1: List): List
  take v0
  | Nil
    ret v1
  | Cons v2 v3
    v4 = call append v3 v1
    v5 = Cons v2 v4
    ret v5
`

// TestAppend is the first example of the chapter.
func TestAppend(t *testing.T) {
	p := parse(t, appendText)
	for n := range 6 {
		for m := range 4 {
			v, trace, e := Run(p, 0, []api.Value{list(n), list(m)}, 4*n+2)
			if want := (Trace{Steps: 4*n + 2}); trace != want || e != api.OK || plainCells(v) != n+m {
				t.Errorf("appending %d and %d elements yields %v, %v, %d", n, m, v, trace, e)
			}
			checkError(t, p, 0, []api.Value{list(n), list(m)}, 4*n+1, api.ErrFuel)
		}
	}
	args := values(t, p, 0, []string{"Cons 1 (Cons 2 Nil)", "Cons 3 Nil"})
	want := values(t, p, 0, []string{"Cons 1 (Cons 2 (Cons 3 Nil))", "Nil"})[0]
	checkRun(t, p, 0, args, 10, want, []int{-1, 0, -1, 0, 0, -1, 0, -1, 0, 0}, api.OK)
}

// TestExamples has the other examples of the chapter.
func TestExamples(t *testing.T) {
	p := parse(t, appendText+`fun one(): List
  v0 = 1
  v1 = Nil
  v2 = Cons v0 v1
  ret v2
fun double(v0: List): List
  v1 = copy v0
  v2 = call append v1 v0
  ret v2
fun endless(v0: Int): Int
  v1 = call endless v0
  ret v1
`)
	checkRun(t, p, 1, nil, 4, list(1), []int{0, 0, 1, 1}, api.OK)
	if v, trace, e := Run(p, 2, []api.Value{list(2)}, 100); trace != (Trace{13, 3, 2}) || e != api.OK || plainCells(v) != 4 {
		t.Errorf("the double of a list is %v, %v, %d", v, trace, e)
	}
	for fuel, want := range map[int]api.Errno{0: api.ErrFuel, 9: api.ErrFuel, api.MaxCells: api.ErrFuel, api.MaxCells + 1: api.ErrCells, api.MaxFuel: api.ErrCells} {
		checkError(t, p, 3, []api.Value{integer(7)}, fuel, want)
	}
}

// errorText has functions for the errors and their order: an extern one is the first, and the last one has no parameter.
const errorText = `extern far(v0: List): Int
fun id(v0: List, read v1: Tree, v2: Int): List
  ret v0
fun none(): Int
  v0 = 0
  ret v0
`

// TestArguments checks the errors that are there before the first step, and their order.
func TestArguments(t *testing.T) {
	p := parse(t, errorText)
	tooMany, wrong := list(api.MaxCells+1), api.Value{Con: 2}
	few, good := []api.Value{list(1)}, []api.Value{list(1), {}, integer(3)}
	for _, c := range []struct {
		fun  int
		args []api.Value
		fuel int
		want api.Errno
	}{
		{-1, nil, 9, api.ErrRange},
		{3, nil, 9, api.ErrRange},
		{-1 << 62, nil, 9, api.ErrRange},
		{2, nil, -1, api.ErrRange},
		{2, nil, api.MaxFuel + 1, api.ErrRange},
		{2, few, -1 << 63, api.ErrRange}, // before ErrArg
		{7, few, 9, api.ErrRange},
		{2, few, 9, api.ErrArg},
		{2, few, 0, api.ErrArg},
		{1, few, 9, api.ErrArg},
		{1, nil, 9, api.ErrArg},
		{1, append(good[:3:3], integer(1)), 9, api.ErrArg},
		{1, []api.Value{wrong, wrong}, 9, api.ErrArg}, // before the values
		{0, nil, 9, api.ErrArg},                       // before ErrNone
		{1, []api.Value{wrong, {}, {}}, 0, api.ErrType},
		{1, []api.Value{{}, wrong, {}}, 0, api.ErrType},
		{1, []api.Value{{}, {}, {Con: 1}}, 9, api.ErrType},
		{1, []api.Value{integer(1), {}, {}}, 9, api.ErrType},
		{1, []api.Value{tooMany, {}, {}}, 0, api.ErrCells},
		{1, []api.Value{tooMany, wrong, {}}, 9, api.ErrCells}, // that of the first argument
		{1, []api.Value{wrong, {}, tooMany}, 9, api.ErrType},
		{0, []api.Value{wrong}, 0, api.ErrType}, // before ErrNone
		{0, []api.Value{tooMany}, 9, api.ErrCells},
		{0, []api.Value{{}}, 9, api.ErrNone},
		{0, []api.Value{list(3)}, 0, api.ErrNone}, // before ErrFuel
		{1, good, 0, api.ErrFuel},
		{2, nil, 0, api.ErrFuel},
		{2, nil, 1, api.ErrFuel},
	} {
		checkError(t, p, c.fun, c.args, c.fuel, c.want)
	}
	checkRun(t, p, 1, good, 1, list(1), []int{0}, api.OK)
	checkRun(t, p, 2, []api.Value{}, 2, api.Value{}, []int{0, 0}, api.OK)
}

// TestPrograms checks the errors of programs that are not valid, which precede all others.
func TestPrograms(t *testing.T) {
	valid := parse(t, errorText)
	checkAll := func(p api.Program, want api.Errno) {
		t.Helper()
		for fun := -1; fun < 5; fun++ {
			for _, fuel := range []int{-1, 0, 9, api.MaxFuel + 1} {
				checkError(t, p, fun, nil, fuel, want)
				checkError(t, p, fun, []api.Value{{Con: 9}}, fuel, want)
			}
		}
	}
	checkAll(api.Program{}, api.ErrForm)
	bad := valid
	bad.Funs = append(valid.Funs[:3:3], valid.Funs[0]) // ErrTwice of core.Check
	checkAll(bad, api.ErrForm)
	bad.Funs = append(valid.Funs[:3:3], api.Fun{Name: "g", Code: []api.Node{{Op: api.Tail, Fun: 9}}}) // ErrRange of core.Check
	checkAll(bad, api.ErrForm)
	bad = valid
	bad.Datas = valid.Datas[1:]
	checkAll(bad, api.ErrForm)
	// The function that violates a rule is not the one that is called.
	checkAll(parse(t, errorText+"fun lost(v0: List): Int\n  v1 = 0\n  ret v1\n"), api.ErrUse)
	checkAll(parse(t, errorText+"fun lent(read v0: List): List\n  ret v0\n"), api.ErrMode)
	checkAll(parse(t, errorText+"fun lent(read v0: List): List\n  ret v0\nfun lost(v0: List): Int\n  v1 = 0\n  ret v1\n"), api.ErrMode)
	checkAll(parse(t, errorText+"fun lost(v0: List): Int\n  v1 = 0\n  ret v1\nfun lent(read v0: List): List\n  ret v0\n"), api.ErrUse)
}

// TestExtern checks that an extern function is no step, and needs no fuel.
func TestExtern(t *testing.T) {
	p := parse(t, `extern far(v0: List): List
fun calls(v0: List): List
  v1 = call far v0
  ret v1
fun tails(v0: List): List
  tail far v0
fun holes(v0: List): List
  v1 = 1
  hole Cons v1 _ : far v0
fun twice(v0: List): List
  v1 = call tails v0
  ret v1
`)
	for fun, steps := range []int{0, 1, 1, 2, 2} {
		for fuel := range 5 {
			want := api.ErrNone
			if fuel < steps {
				want = api.ErrFuel
			}
			checkError(t, p, fun, []api.Value{list(2)}, fuel, want)
		}
		checkError(t, p, fun, []api.Value{list(2)}, api.MaxFuel, api.ErrNone)
	}
}

// TestCyclic checks that slices that contain themselves are not values.
func TestCyclic(t *testing.T) {
	p := parse(t, errorText)
	wide := []api.Value{{}, {Con: 1}}
	wide[1].Args = wide
	deep := []api.Value{{Con: 1}, {}, {}}
	deep[0].Args = deep
	for _, v := range []api.Value{{Con: 1, Args: wide}, {Con: 1, Args: deep}, wide[1], deep[0]} {
		e := value.Check(p.Datas, 2, v)
		if e == api.OK {
			t.Fatalf("a value that contains itself is valid")
		}
		checkCyclic(t, p, v, e)
	}
}

func checkCyclic(t *testing.T, p api.Program, v api.Value, want api.Errno) {
	t.Helper()
	if _, _, e := Run(p, 0, []api.Value{v}, 9); e != want {
		t.Errorf("Run of a value that contains itself has the error %d, want %d", e, want)
	}
	if profile, e := Profile(p, 1, []api.Value{v, {}, {}}, 9); e != want || len(profile) > 0 {
		t.Errorf("Profile of a value that contains itself has the error %d, want %d", e, want)
	}
}

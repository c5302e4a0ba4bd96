package eval

import (
	"runtime/debug"
	"testing"

	"cellarer/api"
)

// limitText has functions that use any number of cells. A list of n elements comes from count, one of n times n of nested calls from deep.
const limitText = `fun count(v0: Int): List
  v1 = 1
  v2 = less v0 v1
  read v2
  | False
    v3 = sub v0 v1
    hole Cons v0 _ : count v3
  | True
    v4 = Nil
    ret v4
fun deep(v0: Int): Int
  v1 = 1
  v2 = less v0 v1
  read v2
  | False
    v3 = sub v0 v1
    v4 = call deep v3
    v5 = add v4 v1
    ret v5
  | True
    ret v0
fun copy(read v0: List): List
  v1 = copy v0
  ret v1
fun copies(read v0: List): List
  v1 = copy v0
  v2 = copy v0
  drop v1
  ret v2
fun make(read v0: List): List
  v1 = copy v0
  v2 = 3
  v3 = Cons v2 v1
  ret v3
fun hole(read v0: List): List
  v1 = copy v0
  v2 = 3
  hole Cons v2 _ : id v1
fun id(v0: List): List
  ret v0
fun call(read v0: List): List
  v1 = copy v0
  v2 = call id v1
  ret v2
extern far(v0: List): List
fun away(read v0: List): List
  v1 = copy v0
  v2 = call far v1
  ret v2
fun again(v0: List, v1: List): List
  v2 = call append v0 v1
  v3 = copy v2
  drop v2
  ret v3
` + appendText

// checkEnd checks the trace of a run, or its error, and that it is there after a number of steps.
func checkEnd(t *testing.T, p api.Program, fun string, args []api.Value, want Trace, wantError api.Errno) {
	t.Helper()
	i := 0
	for p.Funs[i].Name != fun {
		i++
	}
	steps := want.Steps
	if wantError != api.OK {
		want = Trace{}
	}
	if _, trace, e := Run(p, i, args, steps); trace != want || e != wantError {
		t.Errorf("%s yields %v, %d, want %v, %d", fun, trace, e, want, wantError)
	}
	if _, _, e := Run(p, i, args, steps-1); e != api.ErrFuel {
		t.Errorf("%s with too little fuel has the error %d", fun, e)
	}
}

// TestCells uses as many cells as there may be, and one more.
func TestCells(t *testing.T) {
	p := parse(t, limitText)
	const most = api.MaxCells
	checkEnd(t, p, "count", []api.Value{integer(most)}, Trace{5*most + 5, most, most}, api.OK)
	checkEnd(t, p, "count", []api.Value{integer(most + 1)}, Trace{5 * (most + 1), 0, 0}, api.ErrCells)
	checkEnd(t, p, "deep", []api.Value{integer(most)}, Trace{5*most + 4 + 2*most, most, 0}, api.OK)
	checkEnd(t, p, "deep", []api.Value{integer(most + 1)}, Trace{5 * (most + 1), 0, 0}, api.ErrCells)
	for _, c := range []struct {
		fun   string
		list  int
		trace Trace
		want  api.Errno
	}{
		{"copy", most, Trace{2, most, most}, api.OK},
		{"copies", most / 2, Trace{4, most, most / 2}, api.OK},
		{"copies", most/2 + 1, Trace{Steps: 2}, api.ErrCells},
		{"make", most - 1, Trace{4, most, most}, api.OK},
		{"make", most, Trace{Steps: 3}, api.ErrCells},
		{"hole", most - 1, Trace{4, most, most}, api.OK},
		{"hole", most, Trace{Steps: 3}, api.ErrCells},
		{"call", most - 1, Trace{4, most, most - 1}, api.OK},
		{"call", most, Trace{Steps: 2}, api.ErrCells},
		{"away", most - 1, Trace{Steps: 2}, api.ErrNone},
		{"away", most, Trace{Steps: 2}, api.ErrCells}, // the step Call is there before the extern function
	} {
		checkEnd(t, p, c.fun, []api.Value{list(c.list)}, c.trace, c.want)
	}
}

// TestBig has values with more cells than can be in use: those of the arguments are not counted.
func TestBig(t *testing.T) {
	p := parse(t, limitText)
	const most = api.MaxCells
	appended := 4*most + 2
	args := []api.Value{list(most), list(most)}
	checkEnd(t, p, "append", args, Trace{appended, 0, 0}, api.OK)
	// The appended list has the cells of both arguments, and a copy of it again as many.
	checkEnd(t, p, "again", []api.Value{list(most), {}}, Trace{appended + 4, most, 0}, api.OK)
	checkEnd(t, p, "again", []api.Value{list(most), list(1)}, Trace{appended + 2, 0, 0}, api.ErrCells)
	checkEnd(t, p, "again", []api.Value{list(most / 2), list(most - most/2 + 1)}, Trace{4*(most/2) + 4, 0, 0}, api.ErrCells)
}

// TestDeep has a result that is nested as deeply as one can be, and much less room on the stack than a call for each part would need.
func TestDeep(t *testing.T) {
	defer debug.SetMaxStack(debug.SetMaxStack(32 << 20))
	p := parse(t, appendText+`fun many(v0: List, v1: List, v2: List, v3: List, v4: List, v5: List): List
  v6 = call append v4 v5
  v7 = call append v3 v6
  v8 = call append v2 v7
  v9 = call append v1 v8
  v10 = call append v0 v9
  v11 = call build v10
  ret v11
fun build(v0: List): List
  v1 = 65536
  tail more v1 v0
fun more(v0: Int, v1: List): List
  v2 = 1
  v3 = less v0 v2
  read v3
  | False
    v4 = sub v0 v2
    v5 = Cons v0 v1
    tail more v4 v5
  | True
    ret v1
`)
	arg := list(api.MaxCells)
	v, trace, e := Run(p, 1, []api.Value{arg, arg, arg, arg, arg, arg}, api.MaxFuel)
	if e != api.ErrCells || trace != (Trace{}) {
		t.Errorf("a list with the frame of a call around it yields %v, %d", trace, e)
	}
	// The same with one cell fewer, which pays for the frame.
	p.Funs[2].Code[0].Num--
	v, trace, e = Run(p, 1, []api.Value{arg, arg, arg, arg, arg, arg}, api.MaxFuel)
	if e != api.OK || trace.Peak != api.MaxCells || trace.Net != api.MaxCells-1 {
		t.Fatalf("the longest list has the trace %v and the error %d", trace, e)
	}
	length := 0
	for ; len(v.Args) > 0; v = v.Args[1] {
		length++
	}
	if length != 7*api.MaxCells-1 {
		t.Errorf("the longest list has %d elements", length)
	}
}

// TestNegative has runs that never use more cells than their arguments had.
func TestNegative(t *testing.T) {
	p := parse(t, "fun drop(v0: List, v1: List): Int\n  drop v0\n  drop v1\n  v2 = 0\n  ret v2\n")
	full := list(api.MaxCells)
	checkEnd(t, p, "drop", []api.Value{full, full}, Trace{4, 0, -2 * api.MaxCells}, api.OK)
	checkRun(t, p, 0, []api.Value{full, list(1)}, 4, integer(0), []int{-api.MaxCells, -api.MaxCells - 1, -api.MaxCells - 1, -api.MaxCells - 1}, api.OK)
	checkError(t, p, 0, []api.Value{full, list(api.MaxCells + 1)}, 4, api.ErrCells)
}

// TestFuel takes as many steps as there may be, and one more.
func TestFuel(t *testing.T) {
	text := `fun loop(v0: Int): Int
  v1 = 1
  v2 = less v0 v1
  read v2
  | False
    v3 = sub v0 v1
    tail loop v3
  | True
    v4 = 5
    v5 = 5
    ret v0
`
	p := parse(t, text)
	args := []api.Value{integer((api.MaxFuel - 6) / 5)}
	checkEnd(t, p, "loop", args, Trace{Steps: api.MaxFuel}, api.OK)
	profile, e := Profile(p, 0, args, api.MaxFuel)
	if len(profile) != api.MaxFuel || e != api.OK {
		t.Errorf("the profile of %d steps has %d, and the error %d", api.MaxFuel, len(profile), e)
	}
	checkError(t, p, 0, args, api.MaxFuel+1, api.ErrRange)
	more := parse(t, text[:len(text)-len("    ret v0\n")]+"    v6 = 5\n    ret v0\n")
	if _, trace, e := Run(more, 0, args, api.MaxFuel); trace != (Trace{}) || e != api.ErrFuel {
		t.Errorf("one step more than there may be yields %v, %d", trace, e)
	}
}

// TestWidest has a function with as many parameters, and a constructor with as many fields, as there may be.
func TestWidest(t *testing.T) {
	p := parse(t, `data Wide = Wide Int List Int Color Int Wide | Thin
fun none(v0: Int, v1: Int, v2: List, v3: Int, v4: Int, v5: Color): Wide
  drop v2
  v6 = Thin
  ret v6
fun wide(v0: Color, v1: Int, v2: Int, v3: List, v4: Int, v5: List): Wide
  hole Wide v1 v3 v2 v0 v4 _ : none v4 v2 v5 v1 v1 v0
`)
	args := values(t, p, 1, []string{"Blue", "1", "2", "Cons 3 Nil", "4", "Cons 5 (Cons 6 Nil)"})
	want := api.Value{Args: []api.Value{integer(1), args[3], integer(2), args[0], integer(4), {Con: 1}}}
	checkRun(t, p, 1, args, 9, want, []int{1, -1, -1, -1}, api.OK)
}

package eval

import (
	"math"
	"testing"

	"cellarer/api"
	"cellarer/value"
)

// run is a function of a text, its arguments, its result, and the number of cells in use after each step.
type run struct {
	name    string
	args    []string
	want    string
	profile []int
}

func checkRuns(t *testing.T, text string, runs []run) {
	t.Helper()
	p := parse(t, text)
	for i, r := range runs {
		if p.Funs[i].Name != r.name {
			t.Fatalf("function %d is %s, not %s", i, p.Funs[i].Name, r.name)
		}
		want, e := value.Parse(p.Datas, p.Funs[i].Result, r.want)
		if e != api.OK {
			t.Fatalf("%q has the error %d", r.want, e)
		}
		args := values(t, p, i, r.args)
		checkRun(t, p, i, args, 99, want, r.profile, api.OK)
		checkRun(t, p, i, args, len(r.profile), want, r.profile, api.OK)
		checkError(t, p, i, args, len(r.profile)-1, api.ErrFuel)
	}
}

// TestNodes has a function for each operation but those that call.
func TestNodes(t *testing.T) {
	checkRuns(t, `fun ret(v0: List): List
  ret v0
fun num(): Int
  v0 = -9223372036854775808
  ret v0
fun prim(v0: Int, v1: Int): Int
  v2 = sub v0 v1
  ret v2
fun make(v0: List): Tree
  v1 = Leaf
  v2 = Leaf
  v3 = Node v1 v0 v2
  ret v3
fun green(): Color
  v0 = Green
  ret v0
fun copy(read v0: Tree): Tree
  v1 = copy v0
  ret v1
fun empty(read v0: List): List
  v1 = copy v0
  ret v1
fun drop(v0: Tree): Int
  drop v0
  v1 = 4
  ret v1
fun two(v0: Tree, v1: List): Int
  drop v1
  drop v0
  v2 = 4
  ret v2
`, []run{
		{"ret", []string{"Cons 1 Nil"}, "Cons 1 Nil", []int{0}},
		{"num", nil, "-9223372036854775808", []int{0, 0}},
		{"prim", []string{"3", "5"}, "-2", []int{0, 0}},
		{"make", []string{"Cons 1 Nil"}, "Node Leaf (Cons 1 Nil) Leaf", []int{0, 0, 1, 1}},
		{"green", nil, "Green", []int{0, 0}},
		{"copy", []string{"Node (Node Leaf (Cons 1 (Cons 2 Nil)) Leaf) Nil Leaf"}, "Node (Node Leaf (Cons 1 (Cons 2 Nil)) Leaf) Nil Leaf", []int{4, 4}},
		{"empty", []string{"Nil"}, "Nil", []int{0, 0}},
		{"drop", []string{"Node (Node Leaf (Cons 1 (Cons 2 Nil)) Leaf) Nil Leaf"}, "4", []int{-4, -4, -4}},
		{"two", []string{"Leaf", "Cons 1 (Cons 2 Nil)"}, "4", []int{-2, -2, -2, -2}},
	})
}

// TestMatch has matches that take a value apart, that read it, and that read a value without fields.
func TestMatch(t *testing.T) {
	text := ""
	for _, name := range []string{"leaf", "node"} {
		text += "fun take" + name + `(v0: Tree): Tree
  take v0
  | Leaf
    v1 = Leaf
    ret v1
  | Node v2 v3 v4
    drop v3
    drop v2
    ret v4
fun read` + name + `(read v0: Tree): Tree
  read v0
  | Leaf
    v1 = Leaf
    ret v1
  | Node v2 v3 v4
    v5 = copy v4
    ret v5
`
	}
	tree := "Node (Node Leaf Nil Leaf) (Cons 1 Nil) (Node Leaf (Cons 5 (Cons 6 Nil)) Leaf)"
	right := "Node Leaf (Cons 5 (Cons 6 Nil)) Leaf"
	checkRuns(t, text+`fun color(v0: Color): Int
  read v0
  | Red
    v1 = 10
    ret v1
  | Green
    v2 = 11
    ret v2
  | Blue
    v3 = 12
    ret v3
`, []run{
		{"takeleaf", []string{"Leaf"}, "Leaf", []int{0, 0, 0}},
		{"readleaf", []string{"Leaf"}, "Leaf", []int{0, 0, 0}},
		{"takenode", []string{tree}, right, []int{-1, -2, -3, -3}},
		{"readnode", []string{tree}, right, []int{0, 3, 3}},
		{"color", []string{"Blue"}, "12", []int{0, 0, 0}},
	})
}

// TestFrames has functions whose frames are given back behind a Tail, a Hole, and both.
func TestFrames(t *testing.T) {
	text := `fun id(v0: List): List
  ret v0
fun tail(v0: List): List
  tail id v0
fun hole(v0: List): List
  v1 = 7
  hole Cons v1 _ : id v0
fun both(v0: List): List
  v1 = 8
  hole Cons v1 _ : hole v0
fun through(v0: List): List
  tail both v0
fun callid(v0: List): List
  v1 = call id v0
  ret v1
fun calltail(v0: List): List
  v1 = call tail v0
  ret v1
fun callhole(v0: List): List
  v1 = call hole v0
  ret v1
fun callthrough(v0: List): List
  v1 = call through v0
  v2 = call callhole v1
  ret v2
fun tailcall(v0: List): List
  v1 = 9
  v2 = call tail v0
  hole Cons v1 _ : callid v2
`
	one, two := "Cons 1 Nil", "Cons 8 (Cons 7 (Cons 1 Nil))"
	checkRuns(t, text, []run{
		{"id", []string{one}, one, []int{0}},
		{"tail", []string{one}, one, []int{0, 0}},
		{"hole", []string{one}, "Cons 7 (Cons 1 Nil)", []int{0, 1, 1}},
		{"both", []string{one}, two, []int{0, 1, 1, 2, 2}},
		{"through", []string{one}, two, []int{0, 0, 1, 1, 2, 2}},
		{"callid", []string{one}, one, []int{1, 0, 0}},
		{"calltail", []string{one}, one, []int{1, 1, 0, 0}},
		{"callhole", []string{one}, "Cons 7 (Cons 1 Nil)", []int{1, 1, 2, 1, 1}},
		{"callthrough", []string{one}, "Cons 7 (Cons 8 (Cons 7 (Cons 1 Nil)))", []int{1, 1, 1, 2, 2, 3, 2, 3, 4, 4, 5, 4, 3, 3}},
		{"tailcall", []string{one}, "Cons 9 (Cons 1 Nil)", []int{0, 1, 1, 0, 1, 2, 1, 1}},
	})
}

// TestHoles fills holes at each place of a constructor, the last one first.
func TestHoles(t *testing.T) {
	checkRuns(t, `fun leaf(): Tree
  v0 = Leaf
  ret v0
fun left(v0: List, v1: Tree): Tree
  hole Node _ v0 v1 : leaf
fun right(v0: List, v1: Tree, v2: Tree): Tree
  v3 = copy v0
  hole Node v1 v0 _ : left v3 v2
fun nil(): List
  v0 = Nil
  ret v0
fun middle(v0: Tree, v1: Tree): Tree
  hole Node v0 _ v1 : nil
fun count(v0: Int): List
  v1 = 1
  v2 = less v0 v1
  read v2
  | False
    v3 = sub v0 v1
    hole Cons v0 _ : count v3
  | True
    v4 = Nil
    ret v4
`, []run{
		{"leaf", nil, "Leaf", []int{0, 0}},
		{"left", []string{"Cons 1 Nil", "Node Leaf Nil Leaf"}, "Node Leaf (Cons 1 Nil) (Node Leaf Nil Leaf)", []int{1, 1, 1}},
		{"right", []string{"Cons 1 Nil", "Leaf", "Node Leaf Nil Leaf"}, "Node Leaf (Cons 1 Nil) (Node Leaf (Cons 1 Nil) (Node Leaf Nil Leaf))", []int{1, 2, 3, 3, 3}},
		{"nil", nil, "Nil", []int{0, 0}},
		{"middle", []string{"Leaf", "Node Leaf Nil Leaf"}, "Node Leaf Nil (Node Leaf Nil Leaf)", []int{1, 1, 1}},
		{"count", []string{"2"}, "Cons 2 (Cons 1 Nil)", []int{0, 0, 0, 0, 1, 1, 1, 1, 1, 2, 2, 2, 2, 2, 2}},
	})
}

// TestParallel passes arguments in another order, to the function itself and to others.
func TestParallel(t *testing.T) {
	checkRuns(t, `fun swap(v0: Int, v1: Int, v2: List): Int
  take v2
  | Nil
    v3 = 10
    v4 = mul v0 v3
    v5 = add v4 v1
    ret v5
  | Cons v6 v7
    tail swap v1 v0 v7
fun twice(v0: Int): Int
  v1 = Nil
  v2 = call swap v0 v0 v1
  ret v2
`, []run{
		{"swap", []string{"3", "4", "Cons 0 Nil"}, "43", []int{-1, -1, -1, -1, -1, -1, -1}},
		{"twice", []string{"3"}, "33", []int{0, 1, 1, 1, 1, 1, 0, 0}},
	})
}

// TestPrims checks the primitive functions, with wrap-around, divisions by 0, and those of the least number.
func TestPrims(t *testing.T) {
	least, most := int64(math.MinInt64), int64(math.MaxInt64)
	for op, cases := range map[string][][3]int64{
		"add":   {{2, 3, 5}, {most, 1, least}, {least, -1, most}, {least, least, 0}, {most, most, -2}},
		"sub":   {{2, 3, -1}, {least, 1, most}, {most, -1, least}, {0, least, least}, {-1, least, most}},
		"mul":   {{-2, 3, -6}, {most, 2, -2}, {least, -1, least}, {least, 2, 0}, {1 << 32, 1 << 32, 0}, {1 << 62, 2, least}, {most, most, 1}},
		"div":   {{7, 2, 3}, {-7, 2, -3}, {7, -2, -3}, {-7, -2, 3}, {7, 0, 0}, {0, 0, 0}, {least, 0, 0}, {least, -1, least}, {least, 1, least}, {most, -1, -most}, {least, most, -1}, {most, least, 0}},
		"mod":   {{7, 2, 1}, {-7, 2, -1}, {7, -2, 1}, {-7, -2, -1}, {7, 0, 7}, {-7, 0, -7}, {0, 0, 0}, {least, 0, least}, {least, -1, 0}, {least, most, -1}, {most, least, most}},
		"less":  {{2, 3, 1}, {3, 3, 0}, {4, 3, 0}, {least, most, 1}, {most, least, 0}, {-1, 0, 1}},
		"most":  {{2, 3, 1}, {3, 3, 1}, {4, 3, 0}, {least, most, 1}, {most, least, 0}, {-1, 0, 1}},
		"equal": {{2, 3, 0}, {3, 3, 1}, {4, 3, 0}, {least, most, 0}, {least, least, 1}, {-1, 0, 0}},
	} {
		for _, c := range cases {
			checkPrim(t, op, c[0], c[1], c[2])
		}
	}
}

func checkPrim(t *testing.T, op string, a, b, want int64) {
	t.Helper()
	result, v := "Int", api.Value{Num: want}
	if op == "less" || op == "most" || op == "equal" {
		result, v = "Bool", api.Value{Con: int(want)}
	}
	p := parse(t, "fun f(v0: Int, v1: Int): "+result+"\n  v2 = "+op+" v0 v1\n  ret v2\n")
	got, _, e := Run(p, 0, []api.Value{{Num: a}, {Num: b}}, 2)
	if e != api.OK || !value.Same(got, v) {
		t.Errorf("%s of %d and %d is %v, %d, want %v", op, a, b, got, e, v)
	}
}

// TestDrawnPrims compares the primitive functions with integers of any size.
func TestDrawnPrims(t *testing.T) {
	r := newDrawn(7)
	for op := range int64(api.Prims) {
		p := parse(t, "fun f(v0: Int, v1: Int): "+[]string{"Int", "Bool"}[op/api.Less]+"\n  v2 = "+[]string{"add", "sub", "mul", "div", "mod", "less", "most", "equal"}[op]+" v0 v1\n  ret v2\n")
		for range 2000 {
			a, b := r.number(), r.number()
			if r.Intn(3) == 0 {
				b = a + int64(r.Intn(3)-1)
			}
			got, _, e := Run(p, 0, []api.Value{{Num: a}, {Num: b}}, 2)
			if want := plainPrim(op, a, b); e != api.OK || !value.Same(got, want) {
				t.Fatalf("the function %d of %d and %d is %v, %d, want %v", op, a, b, got, e, want)
			}
		}
	}
}

package value

import (
	"fmt"
	"math"
	"slices"
	"strings"
	"testing"

	"cellarer/api"
)

func TestExamples(t *testing.T) {
	d := table("List = Nil | Cons Int List")
	v := api.Value{Con: 1, Args: []api.Value{{Num: -1}, {}}}
	checkResults(t, d, listType, v, 1, []int{1, 1}, "Cons (-1) Nil", api.OK)
	checkParse(t, d, listType, " Cons(-1)Nil", v, api.OK)
	checkParse(t, d, listType, "Cons (-1) Nil", v, api.OK)
	checkParse(t, d, listType, "Cons 1", api.Value{}, api.ErrType)
	checkParse(t, d, listType, "cons", api.Value{}, api.ErrSyntax)
	checkParse(t, d, listType, "Node", api.Value{}, api.ErrNone)
	checkSequence(t, d, listType, 1, "Nil", "Cons 0 Nil", "Cons 1 Nil")
}

// TestValues has values of each kind of type.
func TestValues(t *testing.T) {
	d := mixed()
	for _, c := range []struct {
		of     api.Type
		text   string
		cells  int
		counts []int
	}{
		{api.Int, "0", 0, nil}, {api.Int, "-5", 0, nil}, {api.Int, "9223372036854775807", 0, nil}, {api.Int, "-9223372036854775808", 0, nil},
		{api.Bool, "False", 0, nil}, {api.Bool, "True", 0, nil}, {colorType, "Red", 0, nil}, {colorType, "Blue", 0, nil},
		{listType, "Nil", 0, []int{1, 0}}, {listType, "Cons 0 Nil", 1, []int{1, 1}}, {listType, "Cons (-7) (Cons 8 (Cons 9 Nil))", 3, []int{1, 3}},
		{treeType, "None", 0, []int{0, 0, 1, 0, 0}}, {treeType, "Leaf (-1)", 1, []int{1, 0, 0, 0, 0}}, {treeType, "Node None Nil None", 1, []int{0, 1, 2, 1, 0}},
		{treeType, "Node (Leaf 1) (Cons 2 Nil) (Node (Leaf 3) (Cons 4 (Cons 5 Nil)) None)", 7, []int{2, 2, 1, 2, 3}},
		{boxType, "Box (-9223372036854775808)", 1, []int{1}}, {pairType, "Other", 0, []int{0, 1, 0, 0}},
		{pairType, "Pair (Box 1) Green 2 True (P2 (Box 3) (Box (-4))) (Box 5)", 6, []int{1, 0, 4, 1}},
		{chainType, "End", 0, []int{1, 0}}, {chainType, "Link (Link (Link End))", 3, []int{1, 3}},
	} {
		v := read(d, c.text)
		checkResults(t, d, c.of, v, c.cells, c.counts, c.text, api.OK)
		checkAll(t, d, c.of, v)
		// All other types, one of which may have the value, too, as a value of its own.
		for of := range api.Type(len(d) + 1) {
			checkAll(t, d, of, v)
		}
	}
}

// TestWrongTypes has values that do not have a type for each reason, and at each place.
func TestWrongTypes(t *testing.T) {
	d := mixed()
	for _, of := range []api.Type{api.Int, api.Bool, listType, treeType, boxType, pairType} {
		for _, v := range []api.Value{
			{Num: 1, Con: 1}, {Con: -1}, {Con: math.MinInt}, {Con: math.MaxInt}, {Con: 3}, {Con: 16}, {Num: 1, Args: []api.Value{{}}}, {Num: -1, Con: 1, Args: []api.Value{{}, {}}}, {Args: []api.Value{{}, {}}}, {Con: 1, Args: slices.Repeat([]api.Value{{}}, 7)},
		} {
			checkErrors(t, d, of, v, api.ErrType)
		}
	}
	for _, c := range []struct {
		of   api.Type
		text string
	}{
		{api.Int, "#1"}, {api.Int, "Nil 1"}, {api.Bool, "1"}, {api.Bool, "#2"}, {api.Bool, "False 0"}, {listType, "#0 0"}, {listType, "#1"}, {listType, "#1 0"}, {listType, "#1 0 #0 #0"}, {listType, "#2"}, {listType, "5"},
		{listType, "Cons #1 Nil"}, {listType, "Cons 0 7"}, {listType, "Cons 0 #1"}, {listType, "Cons 0 (Cons (Cons 0 Nil) Nil)"}, {listType, "Cons 0 (Cons 0 (Cons 0 #2))"},
		{treeType, "Node None Nil"}, {treeType, "Node None (Leaf 1) None"}, {treeType, "Node Nil (Cons 1 Nil) Red"}, {treeType, "Node (Leaf 1) Nil (Leaf #1)"}, {treeType, "#3"},
		{pairType, "Pair (Box 1) #3 2 True (P2 (Box 3) (Box 4)) (Box 5)"}, {pairType, "Pair (Box 1) Green 2 1 (P2 (Box 3) (Box 4)) (Box 5)"}, {pairType, "Pair (Box 1) Green 2 True (P2 (Box 3) (Box 4)) Box"},
	} {
		checkErrors(t, d, c.of, read(d, c.text), api.ErrType)
	}
}

// TestTables has tables that are rejected, and types that do not exist, whatever the value and the text are.
func TestTables(t *testing.T) {
	check := func(d []api.Data, of api.Type, want api.Errno) {
		t.Helper()
		for _, v := range []api.Value{{}, {Con: 1}, {Num: 5}, {Con: -1}, {Con: 1, Args: []api.Value{{}, {}}}, long(api.MaxCells + 1)} {
			checkErrors(t, d, of, v, want)
		}
		for _, text := range []string{"", "0", "Nil", "True", "A", "(", strings.Repeat("x", api.MaxSource+1)} {
			checkParse(t, d, of, text, api.Value{}, want)
		}
		for _, most := range []int{math.MinInt, -1, 0, 1, 5, math.MaxInt} {
			for v := range All(d, of, most) {
				t.Fatalf("All(%s, %d, %d) has %s", brief(d), of, most, brief(v))
			}
		}
	}
	for _, d := range rejected() {
		for _, of := range []api.Type{math.MinInt, -1, 0, 1, 2, 3, 9, math.MaxInt} {
			check(d, of, api.ErrForm)
		}
	}
	for _, of := range []api.Type{math.MinInt, -1 << 32, -1, 9, 10, 1 << 32, 1<<32 + 1, math.MaxInt} {
		check(mixed(), of, api.ErrRange)
	}
	check(table(), 2, api.ErrRange)
	checkAll(t, table(), 1, api.Value{Con: 1})
}

// long returns a list of a length.
func long(length int) api.Value {
	var v api.Value
	for i := range length {
		v = api.Value{Con: 1, Args: []api.Value{{Num: int64(i % 10)}, v}}
	}
	return v
}

// wide returns a tree with a number of cells, in which no way is long.
func wide(cells int) api.Value {
	switch cells {
	case 0:
		return api.Value{Con: 2}
	case 1:
		return api.Value{Args: []api.Value{{Num: 7}}}
	}
	left := (cells - 1) / 2
	return api.Value{Con: 1, Args: []api.Value{wide(left), {}, wide(cells - 1 - left)}}
}

// TestMostCells has values with exactly as many cells as there may be, and with one more.
func TestMostCells(t *testing.T) {
	d := mixed()
	parts := func(of api.Type, v api.Value) []part {
		list, e := plainParts(d, of, v)
		if e != api.OK {
			t.Fatalf("the plain error is %d", e)
		}
		return list
	}
	checkResults(t, d, listType, long(api.MaxCells), api.MaxCells, []int{1, api.MaxCells}, "", api.ErrLong)
	checkResults(t, d, treeType, wide(api.MaxCells), plainCells(parts(treeType, wide(api.MaxCells))), plainCounts(d, treeType, wide(api.MaxCells)), "", api.ErrLong)
	if cells := plainCells(parts(treeType, wide(api.MaxCells))); cells != api.MaxCells {
		t.Errorf("the wide tree has %d cells", cells)
	}
	for _, more := range []int{1, 2, 100000} {
		checkErrors(t, d, listType, long(api.MaxCells+more), api.ErrCells)
		checkErrors(t, d, treeType, wide(api.MaxCells+more), api.ErrCells)
	}
}

// TestFirstError has values in which ErrType and ErrCells apply: what comes first in preorder counts, and at one part ErrType.
func TestFirstError(t *testing.T) {
	d := mixed()
	for _, c := range []struct {
		before int // the number of cells before the wrong part
		wrong  api.Value
		want   api.Errno
	}{
		{api.MaxCells - 1, api.Value{Con: 1}, api.ErrType}, {api.MaxCells, api.Value{Con: 1}, api.ErrType}, {api.MaxCells, api.Value{Con: 2}, api.ErrType}, {api.MaxCells, api.Value{Num: 1, Con: 1, Args: []api.Value{{}, {}}}, api.ErrType},
		{api.MaxCells, api.Value{Con: 1, Args: []api.Value{{Con: 1}, {}}}, api.ErrCells}, {api.MaxCells, api.Value{Con: 1, Args: []api.Value{{}, {Con: 5}}}, api.ErrCells}, {api.MaxCells + 1, api.Value{Con: 1}, api.ErrCells},
		{api.MaxCells, api.Value{}, api.OK},
	} {
		v := c.wrong
		for range c.before {
			v = api.Value{Con: 1, Args: []api.Value{{}, v}}
		}
		if e := Check(d, listType, v); e != c.want {
			t.Errorf("Check of a list with %d cells before %s is %d, want %d", c.before, brief(c.wrong), e, c.want)
		}
		if c.want != api.OK {
			checkErrors(t, d, listType, v, c.want)
		}
	}
	// The wrong part is the first field of a tree, or the last one, behind too many cells.
	tree := func(first, last api.Value) api.Value {
		return api.Value{Con: 1, Args: []api.Value{first, {}, last}}
	}
	wrong := api.Value{Con: 3}
	checkErrors(t, d, treeType, tree(wrong, wide(api.MaxCells)), api.ErrType)
	checkErrors(t, d, treeType, tree(wide(api.MaxCells), wrong), api.ErrCells)
	checkErrors(t, d, treeType, tree(wide(api.MaxCells-1), wrong), api.ErrType)
	checkErrors(t, d, treeType, tree(wide(api.MaxCells-1), api.Value{Args: []api.Value{{Con: 1}}}), api.ErrCells)
}

// TestCyclic has slices that contain themselves, and a value with very many parts in little memory. None of them could be printed.
func TestCyclic(t *testing.T) {
	d := mixed()
	list := make([]api.Value, 2)
	list[1] = api.Value{Con: 1, Args: list}
	link := make([]api.Value, 1)
	link[0] = api.Value{Con: 1, Args: link}
	links := make([]api.Value, 3)
	for i := range links {
		links[i] = api.Value{Con: 1, Args: links[(i+1)%3 : (i+1)%3+1]}
	}
	double, other := api.Value{Con: 2}, api.Value{Con: 2}
	for range 100 {
		double = api.Value{Con: 1, Args: []api.Value{double, {}, double}}
		other = api.Value{Con: 1, Args: []api.Value{other, {}, other}}
	}
	for i, c := range []struct {
		of   api.Type
		v    api.Value
		want api.Errno
	}{{listType, list[1], api.ErrCells}, {treeType, list[1], api.ErrType}, {chainType, link[0], api.ErrCells}, {chainType, links[1], api.ErrCells}, {treeType, double, api.ErrCells}, {listType, double, api.ErrType}} {
		text, e := Text(d, c.of, c.v)
		if Check(d, c.of, c.v) != c.want || text != "" || e != c.want {
			t.Errorf("the value %d does not have the error %d", i, c.want)
		}
	}
	broken := slices.Clone(links)
	for i := range broken {
		broken[i].Args = broken[(i+1)%3 : (i+1)%3+1]
	}
	broken[1].Num = 1
	for i, c := range []struct {
		a, b api.Value
		want bool
	}{
		{list[1], list[1], true}, {links[0], link[0], true}, {links[0], links[2], true}, {double, other, true}, {broken[0], broken[0], true},
		{list[1], link[0], false}, {link[0], api.Value{Con: 1, Args: []api.Value{{Con: 1, Args: []api.Value{{}}}}}, false}, {links[0], broken[0], false}, {broken[0], link[0], false}, {broken[0], broken[2], false}, {double, other.Args[0], false},
	} {
		if Same(c.a, c.b) != c.want || Same(c.b, c.a) != c.want {
			t.Errorf("Same is not %v for the values %d", c.want, i)
		}
	}
}

// changed returns a copy of a value whose part with a number in preorder is changed.
func changed(v api.Value, number int, change func(part *api.Value)) api.Value {
	v = fresh(v)
	next := 0
	var visit func(part *api.Value)
	visit = func(part *api.Value) {
		isPart := next == number
		next++
		for i := range part.Args {
			visit(&part.Args[i])
		}
		if isPart {
			change(part)
		}
	}
	visit(&v)
	return v
}

func TestSame(t *testing.T) {
	checkSame(t, api.Value{}, api.Value{Args: []api.Value{}}, true)
	other := api.Value{Num: 9, Con: 9}
	for _, text := range []string{"0", "7", "Nil", "Cons 1 (Cons 2 Nil)", "Node (Leaf 1) (Cons 2 Nil) (Node (Leaf 3) (Cons 4 (Cons 5 Nil)) None)", "#9 5 (#2 (#3 6)) (#2 (#3 6))"} {
		v := read(mixed(), text)
		checkSame(t, v, v, true)
		checkSame(t, v, fresh(v), true)
		for number := range len(strings.Fields(text)) {
			for _, change := range []func(part *api.Value){
				func(part *api.Value) { part.Num++ }, func(part *api.Value) { part.Num = math.MinInt64 }, func(part *api.Value) { part.Con++ }, func(part *api.Value) { part.Con = -1 },
				func(part *api.Value) { part.Args = append(part.Args, other) }, func(part *api.Value) { part.Args = slices.Insert(part.Args, 0, other) },
				func(part *api.Value) { part.Args = append(part.Args, part.Args...) },
				func(part *api.Value) { part.Args = part.Args[:max(len(part.Args)-1, 0)] }, func(part *api.Value) { slices.Reverse(part.Args) },
			} {
				w := changed(v, number, change)
				checkSame(t, v, w, plainSame(v, w))
				checkSame(t, w, v, plainSame(v, w))
			}
		}
	}
	checkSame(t, long(1<<20), long(1<<20), true)
	checkSame(t, long(1<<20), long(1<<20-1), false)
	r := newDrawn(1)
	d := mixed()
	equal := 0
	for range 5000 {
		of := api.Type(r.Intn(len(d) + 1))
		a := r.value(d, of, 3)
		b := r.disturbed(a)
		if plainSame(a, b) {
			equal++
		}
		checkSame(t, a, b, plainSame(a, b))
		checkSame(t, b, a, plainSame(a, b))
		c := r.value(d, of, 3)
		checkSame(t, a, c, plainSame(a, c))
	}
	if equal < 100 || equal > 4900 {
		t.Errorf("%d of the values are equal", equal)
	}
}

// TestDrawn compares drawn values, and ones that are changed at one part, with plain functions.
func TestDrawn(t *testing.T) {
	r := newDrawn(2)
	d := mixed()
	count := map[bool]int{}
	for range 20000 {
		of := api.Type(r.Intn(len(d) + 1))
		v := r.value(d, of, r.Intn(6))
		checkAll(t, d, of, v)
		v = r.disturbed(v)
		checkAll(t, d, of, v)
		count[Check(d, of, v) == api.OK]++
		checkAll(t, d, api.Type(r.Intn(len(d)+1)), v)
	}
	if count[true] < 1000 || count[false] < 1000 {
		t.Errorf("too few values are valid, or not valid: %v", count)
	}
}

// TestLargestTable has a table with as many types, constructors and fields as there may be.
func TestLargestTable(t *testing.T) {
	var lines []string
	for i := range api.MaxDatas - 1 {
		line := fmt.Sprintf("T%d = ", i)
		for con := range api.MaxCons {
			line += fmt.Sprintf("C%d_%d ", i, con) + strings.Repeat(fmt.Sprintf("%d ", 2+(i+1)%(api.MaxDatas-1)), con%(api.MaxFields+1)) + "| "
		}
		lines = append(lines, strings.TrimSuffix(line, " | "))
	}
	d := table(lines...)
	r := newDrawn(3)
	for range 50 {
		of := api.Type(2 + r.Intn(api.MaxDatas-1))
		v := r.value(d, of, 3)
		checkAll(t, d, of, v)
		checkAll(t, d, of, r.disturbed(v))
	}
}

// TestMemory checks that arguments are neither changed nor kept, and that results are new.
func TestMemory(t *testing.T) {
	d := mixed()
	for i := range d {
		for j := range d[i].Cons {
			d[i].Cons[j].Fields = append(d[i].Cons[j].Fields, 77)[:len(d[i].Cons[j].Fields)]
		}
	}
	v := read(d, "Cons 1 (Cons 2 Nil)")
	v.Args = append(v.Args, api.Value{Num: 88})[:2]
	text := func() string {
		out := fmt.Sprint(d, v, v.Args[:3])
		for _, data := range d {
			for _, c := range data.Cons {
				out += fmt.Sprint(c.Fields[:cap(c.Fields)])
			}
		}
		return out
	}
	before := text()
	checkAll(t, d, listType, v)
	checkAll(t, d, treeType, v)
	for range All(d, treeType, 3) {
	}
	if text() != before {
		t.Errorf("an argument was changed")
	}
	counts, _ := Counts(d, listType, v)
	clear(counts[:cap(counts)])
	parsed, _ := Parse(d, listType, "Cons 1 (Cons 2 Nil)")
	parsed.Args[1].Args[0].Num = 5
	checkAll(t, d, listType, v)
}

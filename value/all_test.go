package value

import (
	"cmp"
	"fmt"
	"math"
	"slices"
	"strings"
	"testing"

	"cellarer/api"
)

// textsOf returns the texts of the values of a sequence, which are changed when they have been read.
func textsOf(t *testing.T, d []api.Data, of api.Type, most int) []string {
	t.Helper()
	var texts []string
	for v := range All(d, of, most) {
		if e := Check(d, of, v); e != api.OK {
			t.Fatalf("All(%s, %d, %d) has %s, whose error is %d", brief(d), of, most, brief(v), e)
		}
		texts = append(texts, plainText(d, of, v))
		spoil(&v)
	}
	return texts
}

// spoil changes all parts of a value.
func spoil(v *api.Value) {
	for i := range v.Args {
		spoil(&v.Args[i])
	}
	for i := range v.Args[:cap(v.Args)] {
		v.Args[:cap(v.Args)][i] = api.Value{Num: -99, Con: -99}
	}
}

func checkSequence(t *testing.T, d []api.Data, of api.Type, most int, want ...string) {
	t.Helper()
	if got := textsOf(t, d, of, most); !slices.Equal(got, want) {
		t.Fatalf("All(%s, %d, %d) has %s, want %s", brief(d), of, most, brief(got), brief(want))
	}
}

// sized is a value of a type, with its cells.
type sized struct {
	t     api.Type
	v     api.Value
	cells int
	args  []sized
}

// compare compares values of one type by the order in which they are yielded.
func compare(a, b sized) int {
	return cmp.Or(cmp.Compare(a.cells, b.cells), cmp.Compare(a.v.Num, b.v.Num), cmp.Compare(a.v.Con, b.v.Con), slices.CompareFunc(a.args, b.args, compare))
}

// plainAll returns the values of a type with at most a number of cells, in no particular order.
func plainAll(d []api.Data, t api.Type, most int) []sized {
	if most < 0 {
		return nil
	}
	if t == 0 {
		return []sized{{v: api.Value{Num: 1}}, {}}
	}
	var out []sized
	for con, c := range d[t-1].Cons {
		own := min(len(c.Fields), 1)
		lists := []sized{{t: t, v: api.Value{Con: con}, cells: own}}
		if own > most {
			continue
		}
		for _, field := range c.Fields {
			var longer []sized
			for _, arg := range plainAll(d, field, most-1) {
				for _, list := range lists {
					if list.cells+arg.cells <= most {
						longer = append(longer, sized{t, api.Value{Con: con, Args: slices.Concat(list.v.Args, []api.Value{arg.v})}, list.cells + arg.cells, slices.Concat(list.args, []sized{arg})})
					}
				}
			}
			lists = longer
		}
		out = append(out, lists...)
	}
	return out
}

// plainTexts returns the texts of the values that All yields.
func plainTexts(d []api.Data, t api.Type, most int) []string {
	all := plainAll(d, t, most)
	slices.SortFunc(all, compare)
	var texts []string
	for _, s := range all {
		texts = append(texts, plainText(d, t, s.v))
	}
	return texts
}

// TestOrder has sequences that are written out.
func TestOrder(t *testing.T) {
	d := mixed()
	checkSequence(t, d, api.Int, 0, "0", "1")
	checkSequence(t, d, api.Int, 7, "0", "1")
	checkSequence(t, d, api.Bool, 0, "False", "True")
	checkSequence(t, d, colorType, 3, "Red", "Green", "Blue")
	checkSequence(t, d, listType, 0, "Nil")
	checkSequence(t, d, listType, 2, "Nil", "Cons 0 Nil", "Cons 1 Nil", "Cons 0 (Cons 0 Nil)", "Cons 0 (Cons 1 Nil)", "Cons 1 (Cons 0 Nil)", "Cons 1 (Cons 1 Nil)")
	checkSequence(t, d, boxType, 0)
	checkSequence(t, d, boxType, 1, "Box 0", "Box 1")
	checkSequence(t, d, boxType, 2, "Box 0", "Box 1")
	checkSequence(t, d, chainType, 3, "End", "Link End", "Link (Link End)", "Link (Link (Link End))")
	checkSequence(t, d, treeType, 1, "None", "Leaf 0", "Leaf 1", "Node None Nil None")
	// The first value has as few cells as possible first.
	checkSequence(t, d, treeType, 2, "None", "Leaf 0", "Leaf 1", "Node None Nil None",
		"Node None Nil (Leaf 0)", "Node None Nil (Leaf 1)", "Node None Nil (Node None Nil None)", "Node None (Cons 0 Nil) None", "Node None (Cons 1 Nil) None", "Node (Leaf 0) Nil None", "Node (Leaf 1) Nil None", "Node (Node None Nil None) Nil None")
	checkSequence(t, d, pairType, 5, "Other")
	// Constructors come in the order of the table, also behind each other's cells.
	e := table("A = A0 A | A1 | A2 Bool | A3", "B = B0 C C", "C = C0 Int | C1")
	checkSequence(t, e, 2, 2, "A1", "A3", "A0 A1", "A0 A3", "A2 False", "A2 True", "A0 (A0 A1)", "A0 (A0 A3)", "A0 (A2 False)", "A0 (A2 True)")
	checkSequence(t, e, 3, 9, "B0 C1 C1", "B0 C1 (C0 0)", "B0 C1 (C0 1)", "B0 (C0 0) C1", "B0 (C0 1) C1", "B0 (C0 0) (C0 0)", "B0 (C0 0) (C0 1)", "B0 (C0 1) (C0 0)", "B0 (C0 1) (C0 1)")
}

// TestAllPlain compares the sequences of all types of some tables with plain ones.
func TestAllPlain(t *testing.T) {
	values := 0
	for _, d := range [][]api.Data{mixed(), table(), table("T = N | B T T", "U = U T Bool T | V U | W"), table("A = A B | E", "B = B A A | F Int", "C = C A Int B Bool C | G"), table("A = A Big | No", "Big = Big B3 B3", "B3 = B3 Box Box", "Box = Box Bool", "Six = Six A A A A A A")} {
		for of := range api.Type(len(d) + 1) {
			for most := -2; most < 7; most++ {
				want := plainTexts(d, of, most)
				checkSequence(t, d, of, most, want...)
				values += len(want)
				seen := slices.Clone(want)
				slices.Sort(seen)
				if len(slices.Compact(seen)) < len(want) {
					t.Fatalf("All(%s, %d, %d) has a value twice", brief(d), of, most)
				}
			}
		}
	}
	if values < 10000 {
		t.Errorf("only %d values were compared", values)
	}
}

// TestGaps has types some of whose numbers of cells have no values.
func TestGaps(t *testing.T) {
	d := table("A = A Big | No", "Big = Big B3 B3", "B3 = B3 Box Box", "Box = Box Color", "Color = Red", "Two = Two A A", "Rec = Rec Big Rec | End")
	const big = "Big (B3 (Box Red) (Box Red)) (B3 (Box Red) (Box Red))"
	for _, c := range []struct {
		of   api.Type
		most int
		want []string
	}{
		{2, 7, []string{"No"}}, {2, 8, []string{"No", "A (" + big + ")"}}, {2, math.MaxInt, []string{"No", "A (" + big + ")"}}, {3, 6, nil}, {3, 7, []string{big}}, {4, 2, nil}, {4, 3, []string{"B3 (Box Red) (Box Red)"}},
		{7, 16, []string{"Two No No", "Two No (A (" + big + "))", "Two (A (" + big + ")) No"}},
		{7, math.MaxInt, []string{"Two No No", "Two No (A (" + big + "))", "Two (A (" + big + ")) No", "Two (A (" + big + ")) (A (" + big + "))"}},
		{8, 23, []string{"End", "Rec (" + big + ") End", "Rec (" + big + ") (Rec (" + big + ") End)"}},
	} {
		checkSequence(t, d, c.of, c.most, c.want...)
	}
}

// TestEnds has types with few values, all of which are yielded if any number of cells is allowed.
func TestEnds(t *testing.T) {
	d := mixed()
	for _, most := range []int{api.MaxCells, api.MaxCells + 1, 1 << 32, math.MaxInt} {
		checkSequence(t, d, api.Int, most, "0", "1")
		checkSequence(t, d, api.Bool, most, "False", "True")
		checkSequence(t, d, boxType, most, "Box 0", "Box 1")
		if got := textsOf(t, d, pairType, most); len(got) != 1+2*3*2*2*4*2 || !slices.Equal(got, textsOf(t, d, pairType, 6)) {
			t.Errorf("there are %d pairs", len(got))
		}
	}
	six := table("Six = Six Bool Bool Bool Bool Bool Bool", "More = More Six Six | Less")
	if got := textsOf(t, six, 2, math.MaxInt); len(got) != 64 || got[0] != "Six False False False False False False" || got[63] != "Six True True True True True True" {
		t.Errorf("All of Six has %s", brief(got))
	}
	if got := textsOf(t, six, 3, math.MaxInt); len(got) != 64*64+1 {
		t.Errorf("All of More has %d values", len(got))
	}
}

// TestMostCellsOfAll has types whose only value has as many cells as Check accepts, one less and one more.
func TestMostCellsOfAll(t *testing.T) {
	lines := []string{"Unit = Unit", "D0 = D0 Unit"}
	for i := range 16 {
		lines = append(lines, fmt.Sprintf("D%d = D%d D%d D%d", i+1, i+1, i, i))
	}
	d := table(append(lines, "Most = Most D15", "Over = Over Most")...)
	for _, c := range []struct {
		name  string
		cells int
	}{{"D15", api.MaxCells - 1}, {"Most", api.MaxCells}, {"Over", api.MaxCells + 1}, {"D16", 2*api.MaxCells - 1}} {
		of := api.Type(1 + slices.IndexFunc(d, func(data api.Data) bool { return data.Name == c.name }))
		for _, most := range []int{c.cells - 1, c.cells, math.MaxInt} {
			values := 0
			for v := range All(d, of, most) {
				values++
				if cells, e := Cells(d, of, v); cells != c.cells || e != api.OK {
					t.Errorf("a value of %s has %d cells, %d", c.name, cells, e)
				}
			}
			want := 0
			if c.cells <= min(most, api.MaxCells) {
				want = 1
			}
			if values != want {
				t.Errorf("All of %s with %d cells has %d values", c.name, most, values)
			}
		}
	}
}

// TestLeft leaves sequences at each place, and visits them again.
func TestLeft(t *testing.T) {
	d := mixed()
	for _, c := range []struct {
		of   api.Type
		most int
	}{{api.Int, 0}, {api.Bool, 2}, {listType, 4}, {treeType, 3}, {boxType, 3}, {pairType, 6}, {chainType, 30}} {
		all := All(d, c.of, c.most)
		want := plainTexts(d, c.of, c.most)
		for stop := range len(want) + 1 {
			var texts []string
			for v := range all {
				texts = append(texts, plainText(d, c.of, v))
				spoil(&v)
				if len(texts) == stop {
					break
				}
			}
			if stop > 0 && !slices.Equal(texts, want[:stop]) || stop == 0 && !slices.Equal(texts, want) {
				t.Fatalf("All(%s, %d, %d), left after %d values, has %s, want %s", brief(d), c.of, c.most, stop, brief(texts), brief(want))
			}
		}
		// The function is not called any more once it has returned false.
		calls := 0
		all(func(api.Value) bool {
			calls++
			return calls < len(want)/2
		})
		if calls != max(len(want)/2, 1) {
			t.Errorf("All(%s, %d, %d) calls %d times", brief(d), c.of, c.most, calls)
		}
	}
	// Sequences without an end that anybody reaches.
	for _, most := range []int{api.MaxCells, math.MaxInt} {
		for _, of := range []api.Type{listType, treeType, chainType} {
			want := plainTexts(d, of, 5)
			want = want[:min(len(want), 200)]
			var texts []string
			for v := range All(d, of, most) {
				if texts = append(texts, plainText(d, of, v)); len(texts) == len(want) {
					break
				}
			}
			if !slices.Equal(texts, want) {
				t.Errorf("All(%s, %d, %d) has %s", brief(d), of, most, brief(texts))
			}
		}
	}
}

// TestInside visits a sequence while it is visited.
func TestInside(t *testing.T) {
	d := mixed()
	all := All(d, listType, 2)
	var pairs []string
	for v := range all {
		for w := range all {
			pairs = append(pairs, plainText(d, listType, v)+", "+plainText(d, listType, w))
			spoil(&w)
		}
	}
	var want []string
	for _, v := range plainTexts(d, listType, 2) {
		for _, w := range plainTexts(d, listType, 2) {
			want = append(want, v+", "+w)
		}
	}
	if !slices.Equal(pairs, want) {
		t.Errorf("the pairs are %s, want %s", brief(pairs), brief(want))
	}
}

// TestChangedTable changes the table behind a sequence, before its first visit and during one.
func TestChangedTable(t *testing.T) {
	d := mixed()
	want := plainTexts(d, treeType, 3)
	sequence := All(d, treeType, 3)
	first := true
	for range 2 {
		var texts []string
		for v := range sequence {
			texts = append(texts, plainText(mixed(), treeType, v))
			if first {
				for i := range d {
					for _, c := range d[i].Cons {
						clear(c.Fields)
					}
					d[i].Cons[0].Fields = append(d[i].Cons[0].Fields, 5)
					d[i].Cons = d[i].Cons[:1]
				}
				clear(d)
				first = false
			}
		}
		if !slices.Equal(texts, want) {
			t.Errorf("the sequence has %s, want %s", brief(texts), brief(want))
		}
	}
	d = mixed()
	sequence = All(d, listType, 1)
	d[1].Cons[1].Fields[0] = api.Bool
	d[1].Cons = append(d[1].Cons[:1], api.Con{Name: "Other"})
	if texts := strings.Join(visited(sequence), ", "); texts != "Nil, Cons 0 Nil, Cons 1 Nil" {
		t.Errorf("the sequence has %s", texts)
	}
}

// visited returns the texts of the lists of a sequence.
func visited(sequence func(yield func(api.Value) bool)) []string {
	var texts []string
	for v := range sequence {
		texts = append(texts, plainText(mixed(), listType, v))
	}
	return texts
}

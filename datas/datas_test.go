package datas

import (
	"math"
	"reflect"
	"slices"
	"testing"

	"cellarer/api"
)

func TestExamples(t *testing.T) {
	d := table(exampleLines...)
	checkAll(t, d)
	checkReach(t, d, optType, optType, listType, api.Int)
	if !Recursive(d, listType) || Recursive(d, optType) || Flat(d, listType) || !Flat(d, colorType) || Cells(d, listType, 1) != 1 || Cells(d, listType, 0) != 0 {
		t.Errorf("the example has other properties")
	}
	checkCheck(t, withBool("A = B A"), api.ErrDeep)
	checkCheck(t, withBool("A = True"), api.ErrTwice)
	checkCheck(t, withBool("A = B 9"), api.ErrType)
}

func TestFlat(t *testing.T) {
	d := withBool("A = B | C", "D = E | F Int", "G = H Int | I", "J = K Bool", "L = M 99", "N = O", "P = Q A")
	for of, want := range []bool{true, true, true, false, false, false, false, true, false} {
		if Flat(d, api.Type(of)) != want {
			t.Errorf("Flat of %d is not %v", of, want)
		}
	}
	for _, of := range []api.Type{math.MinInt, -1, 9, math.MaxInt} {
		if Flat(d, of) {
			t.Errorf("the type %d, which does not exist, is flat", of)
		}
	}
	if !Flat(nil, api.Int) || Flat(nil, api.Bool) || !Flat([]api.Data{{}}, 1) || Flat([]api.Data{{}}, 2) {
		t.Errorf("Flat is wrong for an empty table or for a type without constructors")
	}
}

func TestCells(t *testing.T) {
	d := withBool("A = B | C Int | D Int Int Int Int Int Int | E | F 99")
	for con, want := range []int{0, 1, 1, 0, 1, 0, 0} {
		if got := Cells(d, 2, con); got != want {
			t.Errorf("the constructor %d has %d cells", con, got)
		}
	}
	for _, of := range []api.Type{math.MinInt, -1, 0, 1, 3, 4, math.MaxInt} {
		for _, con := range []int{math.MinInt, -1, 0, 1, 2, math.MaxInt} {
			if got := Cells(d, of, con); got != 0 {
				t.Errorf("the constructor %d of the type %d has %d cells", con, of, got)
			}
		}
	}
	for _, con := range []int{math.MinInt, -1, 5, 6, math.MaxInt} {
		if got := Cells(d, 2, con); got != 0 {
			t.Errorf("the constructor %d, which does not exist, has %d cells", con, got)
		}
	}
}

// TestFind has tables in which names occur several times, or are no Names.
func TestFind(t *testing.T) {
	for _, d := range [][]api.Data{
		nil, {}, {{}}, {{}, {}}, {{Name: "Int"}}, {{Name: "Int", Cons: []api.Con{{Name: "Int"}}}}, {{Cons: []api.Con{{}}}}, largest(), table(exampleLines...),
		withBool("A = B", "A = B"), withBool("A = B | B | C", "D = C | B | E", "A = E | F", "Int = G", "Bool = True"), withBool("A = A", "B = A | B"),
	} {
		checkFound(t, d)
	}
	d := withBool("A = B | C", "A = D | C | C", "Int = E")
	for name, want := range map[string]api.Type{"Int": 0, "Bool": 1, "A": 2} {
		if got, ok := Type(d, name); got != want || !ok {
			t.Errorf("the type %s is %d, %v", name, got, ok)
		}
	}
	for name, want := range map[string][2]int{"False": {1, 0}, "True": {1, 1}, "B": {2, 0}, "C": {2, 1}, "D": {3, 0}, "E": {4, 0}} {
		if got, con, ok := Con(d, name); int(got) != want[0] || con != want[1] || !ok {
			t.Errorf("the constructor %s is %d, %d, %v", name, got, con, ok)
		}
	}
	for _, name := range []string{"", "B", "True", "a", "A ", "bool", "X"} {
		if got, ok := Type(d, name); got != 0 || ok {
			t.Errorf("the type %q is %d, %v", name, got, ok)
		}
	}
	for _, name := range []string{"", "A", "Bool", "Int", "b", "B ", "X"} {
		if got, con, ok := Con(d, name); got != 0 || con != 0 || ok {
			t.Errorf("the constructor %q is %d, %d, %v", name, got, con, ok)
		}
	}
}

func TestName(t *testing.T) {
	d := []api.Data{{Name: "Bool"}, {Name: "x y"}, {}, {Name: "Bool"}}
	for of, want := range []string{"Int", "Bool", "x y", "", "Bool", "", ""} {
		if got := Name(d, api.Type(of)); got != want {
			t.Errorf("the name of %d is %q", of, got)
		}
	}
	for _, of := range []api.Type{math.MinInt, -1, math.MaxInt} {
		if got := Name(d, of); got != "" {
			t.Errorf("the name of %d is %q", of, got)
		}
	}
	if Name(nil, 0) != "Int" || Name(nil, 1) != "" {
		t.Errorf("names of an empty table")
	}
}

func TestReach(t *testing.T) {
	// Depth first, with Int and flat types, each where it occurs first.
	d := withBool("A = A0 Bool B Int | A1 C", "B = B0 D A | B1 E", "C = C0 Int F", "D = D0", "E = E0 C D", "F = F0 F", "G = G0 99 G1Type -1 | G2 C 100", "G1Type = G3 0")
	checkReach(t, d, 2, 2, 1, 3, 5, 6, 4, 0, 7)
	checkReach(t, d, 3, 3, 5, 2, 1, 0, 4, 7, 6)
	checkReach(t, d, 6, 6, 4, 0, 7, 5)
	checkReach(t, d, 7, 7)
	checkReach(t, d, 5, 5)
	checkReach(t, d, 8, 8, 9, 0, 4, 7)
	checkReach(t, d, 1, 1)
	checkReach(t, d, 0, 0)
	for _, of := range []api.Type{math.MinInt, -1, 10, 11, math.MaxInt} {
		checkReach(t, d, of)
	}
	checkReach(t, nil, 0, 0)
	checkReach(t, nil, 1)
	checkReach(t, []api.Data{{}}, 1, 1)
	for of, want := range []bool{false, false, true, true, false, false, false, true, false, false, false} {
		if Recursive(d, api.Type(of)) != want {
			t.Errorf("Recursive of %d is not %v", of, want)
		}
	}
	checkAll(t, d)
}

func TestRecursive(t *testing.T) {
	d := withBool("Self = S0 | S1 Self", "Circle1 = C1 Circle2", "Circle2 = C2 Int Circle3", "Circle3 = C3 | C4 Circle1", "Outside = O Circle1 Self", "Flat = F", "Twice = T Flat Flat Int Int", "Int2 = I Int", "Missing = M 99 -1")
	want := []bool{false, false, true, true, true, true, false, false, false, false, false}
	for of := range want {
		if Recursive(d, api.Type(of)) != want[of] {
			t.Errorf("Recursive of %d is not %v", of, want[of])
		}
	}
	for _, of := range []api.Type{math.MinInt, -1, 11, 99, math.MaxInt} {
		if Recursive(d, of) {
			t.Errorf("the type %d, which does not exist, is recursive", of)
		}
	}
	if Recursive(nil, 0) || Recursive(nil, 1) {
		t.Errorf("a type of an empty table is recursive")
	}
	checkAll(t, d)
}

// TestConsequences has P17.5 for tables with many types.
func TestConsequences(t *testing.T) {
	draw := newDrawn(2)
	tables := [][]api.Data{largest(), table(exampleLines...)}
	for range 300 {
		tables = append(tables, draw.table(draw.Intn(40)))
	}
	for _, d := range tables {
		reaches := plainReaches(d)
		for of := range api.Type(len(d) + 1) {
			reached := Reach(d, of)
			sorted := slices.Sorted(slices.Values(reached))
			if len(reached) == 0 || reached[0] != of || len(slices.Compact(sorted)) < len(reached) {
				t.Fatalf("Reach(%s, %d) is %v", brief(d), of, reached)
			}
			for _, by := range reached {
				for _, to := range Reach(d, by) {
					if !slices.Contains(reached, to) {
						t.Fatalf("Reach(%s, %d) has %d but not %d", brief(d), of, by, to)
					}
				}
			}
			for to := range api.Type(len(d) + 1) {
				if slices.Contains(reached, to) != (to == of || reaches[[2]api.Type{of, to}]) {
					t.Fatalf("Reach(%s, %d) is %v", brief(d), of, reached)
				}
			}
		}
		if Check(d) != api.OK {
			continue
		}
		for i, data := range d {
			if of, ok := Type(d, data.Name); int(of) != i+1 || !ok || Name(d, of) != data.Name {
				t.Fatalf("the type %s is not found", data.Name)
			}
			for con, c := range data.Cons {
				if of, index, ok := Con(d, c.Name); int(of) != i+1 || index != con || !ok {
					t.Fatalf("the constructor %s is not found", c.Name)
				}
			}
		}
	}
}

// TestDeepTables has tables with far more types than a valid one, which are nested in each other.
func TestDeepTables(t *testing.T) {
	for _, types := range []int{deepest - 1, deepest, deepest + 1, deepest + 2, 2*deepest + 1, 5000} {
		draw := newDrawn(int64(types))
		d := make([]api.Data, types)
		for i := range d {
			// Each type has the next one, before or behind others that are met later or were met before.
			fields := []api.Type{api.Type(i + 2), api.Type(draw.Intn(types + 3)), api.Type(draw.Intn(types + 3))}
			draw.Shuffle(3, func(i, j int) { fields[i], fields[j] = fields[j], fields[i] })
			d[i].Cons = []api.Con{{Fields: fields[:1]}, {}, {Fields: fields[1:]}}
		}
		for _, of := range []api.Type{1, 2, api.Type(types / 2), api.Type(types)} {
			checkReach(t, d, of, plainReach(d, of, nil)...)
		}
	}
}

// TestChains has types that contain each other in a long chain, in the first or the last field, with an end or closed to a ring.
func TestChains(t *testing.T) {
	for _, types := range []int{2, 3, deepest, deepest + 1, deepest + 2, 1 << 16} {
		var all []api.Type
		for i := range types {
			all = append(all, api.Type(i+1))
		}
		last := all[types-1]
		for _, end := range []api.Type{1, last, last + 1, -1} {
			checkChain(t, chain(types, end), end == 1, all)
			checkChain(t, chain(types, end, api.Int), end == 1, append(slices.Clone(all), api.Int))
			checkChain(t, chain(types, end, api.Int, last), end == 1, append(slices.Clone(all), api.Int))
			checkChain(t, chain(types, api.Int, end), end == 1, slices.Insert(slices.Clone(all), 1, api.Int))
		}
	}
}

// TestLongRing has types that are nested more deeply than the stack can grow with a call for each.
func TestLongRing(t *testing.T) {
	const types = 3 << 20
	d := chain(types, 1)
	if reached := Reach(d, types); len(reached) != types || reached[0] != types || reached[types-1] != types-1 {
		t.Errorf("Reach of a long ring is %s", brief(reached))
	}
}

// chain returns a table of types each of which has, instead of the first of the given fields that is not Int, the next type; the last type has the given fields.
func chain(types int, fields ...api.Type) []api.Data {
	d := make([]api.Data, types)
	next := slices.IndexFunc(fields, func(t api.Type) bool { return t != api.Int })
	for i := range d {
		own := slices.Clone(fields)
		if i < types-1 {
			own[next] = api.Type(i + 2)
		}
		d[i].Cons = []api.Con{{Fields: own}}
	}
	return d
}

func checkChain(t *testing.T, d []api.Data, isRing bool, want []api.Type) {
	t.Helper()
	checkReach(t, d, 1, want...)
	if got := Recursive(d, 1); got != isRing {
		t.Fatalf("Recursive of a chain of %d types is %v", len(d), got)
	}
}

// TestMemory checks that arguments are neither changed nor kept, with their spare capacity.
func TestMemory(t *testing.T) {
	whole := append(table(exampleLines...), api.Data{Name: "Spare", Cons: []api.Con{{Name: "Spare"}}})
	for i := range whole {
		whole[i].Cons = append(whole[i].Cons, api.Con{Name: "Spare"})[:len(whole[i].Cons)]
		for j := range whole[i].Cons {
			whole[i].Cons[j].Fields = append(whole[i].Cons[j].Fields, 77)[:len(whole[i].Cons[j].Fields)]
		}
	}
	spare := func() []any {
		var out []any
		for _, data := range whole {
			for _, c := range data.Cons[:len(data.Cons)+1] {
				out = append(out, c.Name, slices.Clone(c.Fields[:cap(c.Fields)]))
			}
			out = append(out, data.Name)
		}
		return out
	}
	before := spare()
	d := whole[:4]
	checkAll(t, d)
	if !reflect.DeepEqual(spare(), before) {
		t.Errorf("the table was changed")
	}
	reached := Reach(d, optType)
	clear(reached[:cap(reached)])
	d[listType-1].Cons[1].Fields[0] = api.Bool
	checkReach(t, d, optType, optType, listType, api.Bool)
}

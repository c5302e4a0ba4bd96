package shape

import (
	"fmt"
	"math"
	"math/rand"
	"reflect"
	"slices"
	"strings"
	"testing"

	"cellarer/api"
	"cellarer/datas"
)

func TestExamples(t *testing.T) {
	d := table("List = Nil | Cons Int List", "Tree = Leaf | Node Tree List Tree")
	const list, tree = 2, 3
	checkText(t, d, list, api.OK, "Nil Cons")
	checkText(t, d, tree, api.OK, "Leaf Node Nil Cons")
	checkText(t, d, api.Int, api.OK, "")
	checkText(t, d, api.Bool, api.OK, "")
	checkInside(t, d, tree, list, api.OK, 2, 3)
	checkInside(t, d, list, tree, api.ErrNone)
	checkOf(t, d, tree, []api.Place{{Type: tree, Con: 0}, {Type: tree, Con: 1}, {Type: list, Con: 0}, {Type: list, Con: 1}})
	checkIndex(t, d, tree, api.Place{Type: list, Con: 1}, 3)
	checkIndex(t, d, list, api.Place{Type: tree}, -1)
	checkAll(t, d)
}

// TestOrder has types whose contents are not in the order of the table, and contain each other.
func TestOrder(t *testing.T) {
	d := table("A = A0 Bool D B | A1 C Color A", "B = B0 E | B1 Int", "C = C0 | C1 F B", "D = D0 C", "E = E0 Int", "F = F0 Color | F1 A", "Color = Red | Green | Blue", "G = G0 | G1 E Color E", "H = H0 H | H1")
	for of, want := range []string{
		"", "", "A0 A1 D0 C0 C1 F0 F1 B0 B1 E0", "B0 B1 E0", "C0 C1 F0 F1 A0 A1 D0 B0 B1 E0", "D0 C0 C1 F0 F1 A0 A1 B0 B1 E0", "E0", "F0 F1 A0 A1 D0 C0 C1 B0 B1 E0", "", "G0 G1 E0", "H0 H1",
	} {
		checkText(t, d, api.Type(of), api.OK, want)
	}
	const a, b, c, e, g = 2, 3, 4, 6, 9
	checkInside(t, d, a, c, api.OK, 3, 4, 5, 6, 0, 1, 2, 7, 8, 9)
	checkInside(t, d, a, a, api.OK, 0, 1, 2, 3, 4, 5, 6, 7, 8, 9)
	checkInside(t, d, a, b, api.OK, 7, 8, 9)
	checkInside(t, d, g, e, api.OK, 2)
	checkInside(t, d, g, b, api.ErrNone)
	checkInside(t, d, e, g, api.ErrNone)
	checkAll(t, d)
}

// TestFlat has flat types, which are inside all types and have no places.
func TestFlat(t *testing.T) {
	d := table("Color = Red | Green", "One = One", "List = Nil | Cons Color List", "Box = Box One")
	for _, flat := range []api.Type{api.Int, api.Bool, 2, 3} {
		checkOf(t, d, flat, nil)
		checkText(t, d, flat, api.OK, "")
		checkIndex(t, d, flat, api.Place{Type: flat}, -1)
		for of := range api.Type(6) {
			checkInside(t, d, of, flat, api.OK)
			checkIndex(t, d, of, api.Place{Type: flat}, -1)
		}
		for _, field := range []api.Type{4, 5} {
			checkInside(t, d, flat, field, api.ErrNone)
		}
		for _, missing := range []api.Type{math.MinInt, -1, 6, math.MaxInt} {
			checkInside(t, d, flat, missing, api.ErrRange)
			checkInside(t, d, missing, flat, api.ErrRange)
		}
	}
	checkAll(t, d)
}

// TestErrors has types that do not exist, in valid tables and in tables that are rejected.
func TestErrors(t *testing.T) {
	d := table("List = Nil | Cons Int List", "Box = Box List")
	for _, missing := range []api.Type{math.MinInt, -1 << 32, -1, 4, 5, 1 << 32, 1<<32 + 2, math.MaxInt} {
		checkOf(t, d, missing, nil)
		checkText(t, d, missing, api.ErrRange, "")
		checkIndex(t, d, missing, api.Place{Type: missing}, -1)
		for of := range api.Type(4) {
			checkInside(t, d, missing, of, api.ErrRange)
			checkInside(t, d, of, missing, api.ErrRange)
		}
		checkInside(t, d, missing, missing, api.ErrRange)
	}
	checkAll(t, d)
	checkAll(t, table())
}

func TestRejected(t *testing.T) {
	list := "List = Nil | Cons Int List"
	for _, c := range []struct {
		e api.Errno
		d []api.Data
	}{
		{api.ErrForm, nil}, {api.ErrForm, []api.Data{}}, {api.ErrForm, []api.Data{{}}}, {api.ErrForm, table(list)[1:]}, {api.ErrForm, table(list, "a = B")}, {api.ErrForm, table("A = b", list)},
		{api.ErrForm, append(table(list), api.Data{Name: "A"})}, {api.ErrTwice, table(list, "List = A")}, {api.ErrTwice, table(list, "Int = A")}, {api.ErrTwice, table(list, "A = Nil")}, {api.ErrTwice, table(list, "A = B | B")},
		{api.ErrType, table(list, "A = B 4")}, {api.ErrType, table(list, "A = B -1")}, {api.ErrDeep, table(list, "A = B A")}, {api.ErrDeep, table("A = B C", "C = D A", list)},
		{api.ErrMany, append(largest(), api.Data{Name: "A", Cons: []api.Con{{Name: "A"}}})}, {api.ErrMany, table(list, "A = B"+strings.Repeat(" Int", api.MaxFields+1))},
		{api.ErrMany, table("A = B0 | B1 | B2 | B3 | B4 | B5 | B6 | B7 | B8 | B9 | C0 | C1 | C2 | C3 | C4 | C5 | C6", list)},
	} {
		if e := datas.Check(c.d); e != c.e {
			t.Fatalf("datas.Check(%s) is %d, want %d", brief(c.d), e, c.e)
		}
		checkRejected(t, c.d)
	}
}

// TestLargest has a table with as many types and constructors as there may be, and names that are as long as they may be.
func TestLargest(t *testing.T) {
	d := largest()
	if e := datas.Check(d); e != api.OK {
		t.Fatalf("the largest table has the error %d", e)
	}
	const count = (api.MaxDatas - 1) * api.MaxCons
	for of := api.Type(2); of <= api.MaxDatas; of++ {
		var want []api.Place
		var names []string
		var inside []int
		for i := range count {
			p := api.Place{Type: 2 + (of-2+api.Type(i/api.MaxCons))%(api.MaxDatas-1), Con: i % api.MaxCons}
			want = append(want, p)
			names = append(names, d[p.Type-1].Cons[p.Con].Name)
			inside = append(inside, (int(of-2)*api.MaxCons+i)%count)
		}
		checkOf(t, d, of, want)
		checkText(t, d, of, api.OK, strings.Join(names, " "))
		checkInside(t, d, 2, of, api.OK, inside...)
	}
}

// TestSmallTables has all valid tables with three types besides Bool of some kinds.
func TestSmallTables(t *testing.T) {
	var options [][2]string
	for _, first := range []string{"", " Int", " Bool", " 2", " 3", " 4", " 4 3"} {
		for _, second := range []string{"", " 2", " 3 4", " Bool 4", " 4 Int 2"} {
			options = append(options, [2]string{first, second})
		}
	}
	valid := 0
	for _, a := range options {
		for _, b := range options {
			for _, c := range options[:14] {
				d := table("A = A0"+a[0]+" | A1"+a[1], "B = B0"+b[0]+" | B1"+b[1], "C = C0"+c[0]+" | C1"+c[1])
				if datas.Check(d) != api.OK {
					checkInside(t, d, 2, 2, api.ErrForm)
					continue
				}
				valid++
				if valid%7 == 0 {
					checkAll(t, d)
				}
				for of := api.Type(2); of < 5; of++ {
					checkOf(t, d, of, plainShape(d, of))
				}
			}
		}
	}
	if valid < 1000 {
		t.Errorf("only %d tables are valid", valid)
	}
}

func TestDrawnTables(t *testing.T) {
	r := rand.New(rand.NewSource(1))
	for range 300 {
		checkAll(t, drawn(r, r.Intn(8)))
	}
}

// TestConsequences has P18.5.
func TestConsequences(t *testing.T) {
	r := rand.New(rand.NewSource(2))
	tables := [][]api.Data{table("List = Nil | Cons Int List", "Tree = Leaf | Node Tree List Tree")}
	for range 60 {
		tables = append(tables, drawn(r, r.Intn(12)))
	}
	compared := 0
	for _, d := range tables {
		for of := range api.Type(len(d) + 1) {
			places := Of(d, of)
			met := map[api.Place]bool{}
			for _, p := range places {
				if met[p] {
					t.Fatalf("Of(%s, %d) has %v twice", brief(d), of, p)
				}
				met[p] = true
			}
			for _, p := range places {
				for _, field := range d[p.Type-1].Cons[p.Con].Fields {
					for _, q := range Of(d, field) {
						if !met[q] {
							t.Fatalf("Of(%s, %d) has %v but not %v of its field", brief(d), of, p, q)
						}
					}
				}
			}
			for by := range api.Type(len(d) + 1) {
				compared += checkTwice(t, d, of, by)
			}
		}
	}
	if compared < 1000 {
		t.Errorf("only %d lists were compared", compared)
	}
}

// checkTwice checks that going inside by way of a type is going inside at once, and returns how often something is inside.
func checkTwice(t *testing.T, d []api.Data, of, by api.Type) int {
	t.Helper()
	outer, e := Inside(d, of, by)
	if e != api.OK {
		return 0
	}
	count := 0
	for field := range api.Type(len(d) + 1) {
		inner, e := Inside(d, by, field)
		if e != api.OK {
			continue
		}
		var want []int
		for _, i := range inner {
			want = append(want, outer[i])
		}
		checkInside(t, d, of, field, api.OK, want...)
		count++
	}
	return count
}

// TestMemory checks that arguments are neither changed nor kept, and that results are new.
func TestMemory(t *testing.T) {
	whole := table("List = Nil | Cons Int List", "Tree = Leaf | Node Tree List Tree", "Spare = Spare")
	for i := range whole {
		for j := range whole[i].Cons {
			whole[i].Cons[j].Fields = append(whole[i].Cons[j].Fields, 77)[:len(whole[i].Cons[j].Fields)]
		}
	}
	text := func() string {
		out := fmt.Sprint(whole)
		for _, data := range whole {
			for _, c := range data.Cons {
				out += fmt.Sprint(c.Fields[:cap(c.Fields)])
			}
		}
		return out
	}
	before := text()
	d := whole[:3]
	checkAll(t, d)
	if text() != before {
		t.Errorf("the table was changed")
	}
	first := Of(d, 3)
	inside, _ := Inside(d, 3, 3)
	want, wantInside := slices.Clone(first), slices.Clone(inside)
	clear(first[:cap(first)])
	clear(inside[:cap(inside)])
	checkOf(t, d, 3, want)
	if again, _ := Inside(d, 3, 3); !reflect.DeepEqual(again, wantInside) {
		t.Errorf("Inside is %v, want %v", again, wantInside)
	}
}

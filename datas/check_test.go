package datas

import (
	"fmt"
	"math"
	"slices"
	"strconv"
	"strings"
	"testing"

	"cellarer/api"
)

func TestValid(t *testing.T) {
	for _, lines := range [][]string{
		{}, {"U = U"}, {"U = U Int"}, {"U = U Bool Bool"}, {"List = Nil | Cons Int List"}, {"List = Cons Int List | Nil"}, {"A = A B", "B = B Bool"}, {"B = B Bool", "A = A B"},
		{"Tree = Leaf | Node Forest", "Forest = Forest List", "List = Nil | Cons Tree List"}, {"A = A B | E", "B = B A"}, {"Pair = Pair Int Int Int Int Int Int"},
		// Constructors may have the names of types, also those of other types, of Int and of Bool, and types those of constructors.
		{"A = Int | Bool | A"}, {"True = T", "False = F"}, {"Nil = Cons", "Cons = Nil"}, {"Int_ = I"}, {"INT = I"}, {"BOOL = FALSE | TRUE"},
	} {
		checkCheck(t, withBool(lines...), api.OK)
		checkAll(t, withBool(lines...))
	}
	checkCheck(t, table(exampleLines...), api.OK)
	checkCheck(t, largest(), api.OK)
}

// TestForm has tables whose first type is not Bool, or that have types without constructors.
func TestForm(t *testing.T) {
	checkCheck(t, nil, api.ErrForm)
	checkCheck(t, []api.Data{}, api.ErrForm)
	checkCheck(t, []api.Data{{}}, api.ErrForm)
	checkCheck(t, []api.Data{{Name: "Bool"}}, api.ErrForm)
	for _, lines := range [][]string{
		{"Bool = True | False"}, {"Bool = False"}, {"Bool = True"}, {"Bool = False | True | Maybe"}, {"Bool = False | False"}, {"Bool = False | True | True"}, {"Bool = No | Yes"},
		{"Bool = False Int | True"}, {"Bool = False | True Bool"}, {"Bool = False | True 7"}, {"Boolean = False | True"}, {"Boo = False | True"}, {"Int = False | True"},
		{"Bool = False | TRUE"}, {"Bool = FALSE | True"}, {"BOOL = False | True"},
		{"List = Nil | Cons Int List"}, {"List = Nil | Cons Int List", boolLine}, {"U = U", boolLine},
	} {
		checkCheck(t, table(lines...), api.ErrForm)
	}
	for _, lines := range [][]string{exampleLines, {boolLine}} {
		for i := range lines {
			checkCheck(t, changed(table(lines...), func(d []api.Data) { d[i].Cons = nil }), api.ErrForm)
			checkCheck(t, changed(table(lines...), func(d []api.Data) { d[i].Cons = []api.Con{} }), api.ErrForm)
		}
	}
	checkCheck(t, table(exampleLines[1:]...), api.ErrForm)
}

// TestNames has all bytes, and names of all lengths, as names of types and of constructors.
func TestNames(t *testing.T) {
	check := func(name string, want bool) {
		t.Helper()
		e := api.ErrForm
		if want {
			e = api.OK
		}
		checkCheck(t, changed(withBool("A = B", "C = D | E"), func(d []api.Data) { d[1].Name = name }), e)
		checkCheck(t, changed(withBool("A = B", "C = D | E"), func(d []api.Data) { d[2].Name = name }), e)
		checkCheck(t, changed(withBool("A = B", "C = D | E"), func(d []api.Data) { d[1].Cons[0].Name = name }), e)
		checkCheck(t, changed(withBool("A = B", "C = D | E"), func(d []api.Data) { d[2].Cons[1].Name = name }), e)
	}
	const first = "FGHIJKLMNOPQRSTUVWXYZ"
	const other = "ABCDEFGHIJKLMNOPQRSTUVWXYZabcdefghijklmnopqrstuvwxyz0123456789_"
	for b := range 256 {
		text := string([]byte{byte(b)})
		// The names A to E are those of other types and constructors.
		if !strings.Contains("ABCDE", text) {
			check(text, strings.Contains(first, text))
		}
		check(text+"x", strings.Contains("ABCDE"+first, text))
		check("X"+text, strings.Contains(other, text))
		check("X"+text+"x", strings.Contains(other, text))
		check("X"+strings.Repeat("x", api.MaxName-2)+text, strings.Contains(other, text))
	}
	for _, length := range []int{1, 2, 3, api.MaxName - 1, api.MaxName, api.MaxName + 1, api.MaxName + 2, 2 * api.MaxName, api.MaxSource} {
		check("X"+strings.Repeat("x", length-1), length <= api.MaxName)
		check(strings.Repeat("X", length), length <= api.MaxName)
		check(strings.Repeat("x", length), false)
	}
	for _, name := range []string{"", " X", "X ", "X Y", "X\n", "É", "Xé", "X\xff", "Χ", "X.Y", "X|Y", "_X", "0X", "-X"} {
		check(name, false)
	}
	check("Let", true)
}

func TestTwice(t *testing.T) {
	for _, lines := range [][]string{
		{"A = B", "A = C"}, {"A = B", "C = D", "A = E"}, {"Bool = B"}, {"A = B", "Bool = C"}, {"Bool = False2 | True2"}, {"Int = B"}, {"A = B", "Int = C"}, {"Int = Int"},
		{"A = B | B"}, {"A = B | C | B"}, {"A = B", "C = B"}, {"A = B | C", "D = E | C"}, {"A = True"}, {"A = B | False"}, {"A = B", "C = D", "E = True Int"}, {"A = B | B Int"},
	} {
		checkCheck(t, withBool(lines...), api.ErrTwice)
	}
	// Any two types and any two constructors of the largest table.
	d := largest()
	for i := range d {
		j := (i*7 + 3) % len(d)
		if i != j && i > 0 {
			checkCheck(t, changed(d, func(d []api.Data) { d[i].Name = d[j].Name }), api.ErrTwice)
			checkCheck(t, changed(d, func(d []api.Data) { d[i].Cons[i%16].Name = d[j].Cons[j%len(d[j].Cons)].Name }), api.ErrTwice)
		}
	}
}

func TestTypes(t *testing.T) {
	for _, field := range []api.Type{math.MinInt, -1 << 32, -2, -1, 5, 6, 9, 1 << 32, 1<<32 + 1, math.MaxInt} {
		for _, text := range []string{"A = B %d", "A = B | C %d", "A = B %d | C", "A = B Int A %d Bool", "A = B Int Int Int Int Int %d"} {
			line := fmt.Sprintf(text, field)
			checkCheck(t, withBool(line, "E = F", "G = H"), api.ErrType)
			checkCheck(t, withBool("E = F", "G = H", line), api.ErrType)
		}
		checkCheck(t, withBool("E = F", "G = H", "A = B Int A Bool | C"), api.OK)
	}
	for field := range 5 {
		checkCheck(t, withBool("E = F", "G = H", "A = B | C "+strconv.Itoa(field)), api.OK)
	}
}

func TestFiniteValues(t *testing.T) {
	for _, c := range []struct {
		e     api.Errno
		lines []string
	}{
		{api.ErrDeep, []string{"A = B A"}}, {api.ErrDeep, []string{"A = B Int A"}}, {api.ErrDeep, []string{"A = B A Int | C Bool A"}}, {api.ErrDeep, []string{"A = B C", "C = D A"}},
		{api.ErrDeep, []string{"A = B C", "C = D E", "E = F A"}}, {api.ErrDeep, []string{"List = Cons Int List"}}, {api.ErrDeep, []string{"A = B", "C = D C A"}}, {api.ErrDeep, []string{"C = D C A", "A = B"}},
		{api.ErrDeep, []string{"A = B C | D A", "C = E A | F C A"}}, {api.ErrDeep, []string{"A = B | C D", "D = E A D"}}, {api.ErrDeep, []string{"A = B C", "C = D C"}}, {api.ErrDeep, []string{"C = D C", "A = B C"}},
		{api.OK, []string{"A = B A | C"}}, {api.OK, []string{"A = C | B A"}}, {api.OK, []string{"A = B A | C Int"}}, {api.OK, []string{"A = B A | C Bool"}}, {api.OK, []string{"A = B C", "C = D A | E"}},
		{api.OK, []string{"A = B C | D A", "C = E A | F Int"}}, {api.OK, []string{"A = B A A A A A A | C Int Int Int Int Int Int"}}, {api.OK, []string{"A = B C", "C = D E", "E = F A | G"}},
	} {
		checkCheck(t, withBool(c.lines...), c.e)
		checkAll(t, withBool(c.lines...))
	}
	// Chains in which each type needs the next one, or the previous one, whose end has a value or has none.
	for _, length := range []int{1, 2, 3, 30, api.MaxDatas - 1} {
		for _, end := range []string{"Int", "Bool", "0", strconv.Itoa(length + 1), "2"} {
			var up, down []string
			for i := range length {
				next := strconv.Itoa(i + 3)
				if i == length-1 {
					next = end
				}
				up = append(up, fmt.Sprintf("T%d = C%d Int %s Bool", i, i, next))
				previous := strconv.Itoa(i + 1)
				if i == 0 {
					previous = end
				}
				down = append(down, fmt.Sprintf("T%d = C%d %s", i, i, previous))
			}
			want := api.ErrDeep
			if end == "Int" || end == "Bool" || end == "0" {
				want = api.OK
			}
			checkCheck(t, withBool(up...), want)
			checkCheck(t, withBool(down...), want)
		}
	}
}

func TestMost(t *testing.T) {
	d := largest()
	checkCheck(t, d, api.OK)
	checkCheck(t, append(clone(d), api.Data{Name: "More", Cons: []api.Con{{Name: "More"}}}), api.ErrMany)
	for _, i := range []int{0, 1, 20, api.MaxDatas - 1} {
		tooMany := func(d []api.Data) {
			for len(d[i].Cons) <= api.MaxCons {
				d[i].Cons = append(d[i].Cons, api.Con{Name: "More" + strconv.Itoa(len(d[i].Cons))})
			}
		}
		checkCheck(t, changed(d, tooMany), api.ErrMany)
		checkCheck(t, changed(d, func(d []api.Data) { tooMany(d); d[i].Cons = d[i].Cons[:api.MaxCons] }), map[bool]api.Errno{true: api.ErrForm, false: api.OK}[i == 0])
	}
	for _, i := range []int{1, 20, api.MaxDatas - 1} {
		for con := range api.MaxCons {
			for _, fields := range []int{0, 1, api.MaxFields - 1, api.MaxFields, api.MaxFields + 1, api.MaxFields + 2, 1000} {
				want := api.OK
				if fields > api.MaxFields {
					want = api.ErrMany
				}
				checkCheck(t, changed(d, func(d []api.Data) { d[i].Cons[con].Fields = make([]api.Type, fields) }), want)
			}
		}
	}
	checkCheck(t, make([]api.Data, api.MaxDatas), api.ErrForm)
	checkCheck(t, make([]api.Data, api.MaxDatas+1), api.ErrMany)
	checkCheck(t, make([]api.Data, 1<<20), api.ErrMany)
	checkCheck(t, []api.Data{{Cons: make([]api.Con, api.MaxCons)}}, api.ErrForm)
	checkCheck(t, []api.Data{{Cons: make([]api.Con, api.MaxCons+1)}}, api.ErrMany)
	checkCheck(t, []api.Data{{Cons: []api.Con{{Fields: make([]api.Type, api.MaxFields)}}}}, api.ErrForm)
	checkCheck(t, []api.Data{{Cons: []api.Con{{Fields: make([]api.Type, api.MaxFields+1)}}}}, api.ErrMany)
	checkCheck(t, []api.Data{{}, {}, {Cons: []api.Con{{}, {}, {Fields: make([]api.Type, 1<<20)}}}}, api.ErrMany)
}

// TestOrderOfErrors has tables with two errors, at two types of which either may be the first.
func TestOrderOfErrors(t *testing.T) {
	type wrong struct {
		e    api.Errno
		make func(d []api.Data, i int)
	}
	all := []wrong{
		{api.ErrMany, func(d []api.Data, i int) { d[i].Cons = append(d[i].Cons, make([]api.Con, api.MaxCons)...) }},
		{api.ErrMany, func(d []api.Data, i int) { d[i].Cons[1].Fields = slices.Repeat([]api.Type{-1}, api.MaxFields+1) }},
		{api.ErrForm, func(d []api.Data, i int) { d[i].Name = "x" }},
		{api.ErrForm, func(d []api.Data, i int) { d[i].Cons[0].Name += "-" }},
		{api.ErrForm, func(d []api.Data, i int) { d[i].Cons = nil }},
		{api.ErrForm, func(d []api.Data, i int) { d[0].Cons[0].Name = "Yes" }},
		{api.ErrForm, func(d []api.Data, i int) { d[0].Cons[1].Fields = []api.Type{9} }},
		{api.ErrTwice, func(d []api.Data, i int) { d[i].Name = "Int" }},
		{api.ErrTwice, func(d []api.Data, i int) { d[i].Name = "Bool" }},
		{api.ErrTwice, func(d []api.Data, i int) { d[i].Cons[0].Name = "True" }},
		{api.ErrTwice, func(d []api.Data, i int) { d[i].Cons[1].Name = d[i].Cons[0].Name }},
		{api.ErrType, func(d []api.Data, i int) { d[i].Cons[1].Fields = []api.Type{-1} }},
		{api.ErrType, func(d []api.Data, i int) { d[i].Cons[0].Fields = append(d[i].Cons[0].Fields, 9) }},
		{api.ErrDeep, func(d []api.Data, i int) {
			d[i].Cons = []api.Con{{Name: d[i].Cons[0].Name, Fields: []api.Type{api.Type(i + 1)}}}
		}},
	}
	order := []api.Errno{api.ErrMany, api.ErrForm, api.ErrTwice, api.ErrType, api.ErrDeep}
	base := withBool("A = A0 | A1", "B = B0 | B1", "C = C0 | C1", "D = D0 | D1")
	checkCheck(t, base, api.OK)
	for _, a := range all {
		for _, b := range all {
			for i := 1; i < len(base); i++ {
				checkCheck(t, changed(base, func(d []api.Data) { a.make(d, i) }), a.e)
				for j := 1; j < len(base); j++ {
					if i == j {
						continue
					}
					want := a.e
					if slices.Index(order, b.e) < slices.Index(order, a.e) {
						want = b.e
					}
					checkCheck(t, changed(base, func(d []api.Data) { a.make(d, i); b.make(d, j) }), want)
				}
			}
		}
	}
}

// TestSmallTables has all tables with two types besides Bool, each with one or two constructors of some kinds.
func TestSmallTables(t *testing.T) {
	var options [][]api.Con
	fields := [][]api.Type{nil, {0}, {1}, {2}, {3}, {2, 3}, {3, 2}, {4}, {-1, 3}}
	for _, first := range fields {
		options = append(options, []api.Con{{Name: "X", Fields: first}})
		for _, second := range fields {
			options = append(options, []api.Con{{Name: "X", Fields: first}, {Name: "Y", Fields: second}})
		}
	}
	count := map[api.Errno]int{}
	for _, first := range options {
		for _, second := range options {
			d := append(table(boolLine), clone([]api.Data{{Name: "A", Cons: first}, {Name: "B", Cons: second}})...)
			for i := range d[2].Cons {
				d[2].Cons[i].Name += "2"
			}
			checkAll(t, d)
			count[Check(d)]++
		}
	}
	for _, e := range []api.Errno{api.OK, api.ErrType, api.ErrDeep} {
		if count[e] < 100 {
			t.Errorf("too few tables have the error %d: %v", e, count)
		}
	}
}

// TestDisturbed compares tables that are changed at up to two places with a plain check.
func TestDisturbed(t *testing.T) {
	draw := newDrawn(1)
	count := map[api.Errno]int{}
	for range 10000 {
		d := draw.table(draw.Intn(6))
		checkAll(t, d)
		count[Check(d)]++
		d = draw.disturbed(d)
		checkAll(t, d)
		count[Check(d)]++
		if !slices.ContainsFunc(d, func(data api.Data) bool { return len(data.Cons) == 0 }) {
			checkAll(t, draw.disturbed(d))
		}
	}
	for _, e := range []api.Errno{api.OK, api.ErrMany, api.ErrForm, api.ErrTwice, api.ErrType, api.ErrDeep} {
		if count[e] < 100 {
			t.Errorf("too few tables have the error %d: %v", e, count)
		}
	}
}

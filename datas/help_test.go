package datas

import (
	"fmt"
	"math/rand"
	"regexp"
	"slices"
	"strconv"
	"strings"
	"testing"

	"cellarer/api"
)

const boolLine = "Bool = False | True"

// exampleLines are those of the chapter's table.
var exampleLines = []string{boolLine, "List = Nil | Cons Int List", "Color = Red | Green", "Opt = None | Some List"}

// The types of the chapter's table.
const (
	listType  = 2
	colorType = 3
	optType   = 4
)

// table returns the table of lines like List = Nil | Cons Int List. The type of a field is Int, the name of a type, or a number. Nothing is checked.
func table(lines ...string) []api.Data {
	types := map[string]api.Type{"Int": api.Int}
	for i, line := range lines {
		types[strings.Fields(line)[0]] = api.Type(i + 1)
	}
	var d []api.Data
	for _, line := range lines {
		name, cons, _ := strings.Cut(line, " = ")
		data := api.Data{Name: name}
		for con := range strings.SplitSeq(cons, " | ") {
			words := strings.Fields(con)
			c := api.Con{Name: words[0]}
			for _, word := range words[1:] {
				t, ok := types[word]
				if n, err := strconv.Atoi(word); !ok && err == nil {
					t = api.Type(n)
				} else if !ok {
					panic(word)
				}
				c.Fields = append(c.Fields, t)
			}
			data.Cons = append(data.Cons, c)
		}
		d = append(d, data)
	}
	return d
}

// withBool returns the table of Bool and lines.
func withBool(lines ...string) []api.Data {
	return table(slices.Concat([]string{boolLine}, lines)...)
}

// clone returns a copy of a table that shares no memory with it.
func clone(d []api.Data) []api.Data {
	d = slices.Clone(d)
	for i := range d {
		d[i].Cons = slices.Clone(d[i].Cons)
		for j := range d[i].Cons {
			d[i].Cons[j].Fields = slices.Clone(d[i].Cons[j].Fields)
		}
	}
	return d
}

// changed returns a changed copy of a table.
func changed(d []api.Data, change func(d []api.Data)) []api.Data {
	d = clone(d)
	change(d)
	return d
}

// largest returns a valid table with as many types, constructors and fields as there may be, and names that are as long as they may be.
func largest() []api.Data {
	longName := func(letter string, number int) string {
		digits := strconv.Itoa(number)
		return letter + strings.Repeat("_", api.MaxName-1-len(digits)) + digits
	}
	d := table(boolLine)
	for i := 1; i < api.MaxDatas; i++ {
		data := api.Data{Name: longName("T", i)}
		for con := range api.MaxCons {
			c := api.Con{Name: longName("C", i*api.MaxCons+con)}
			for field := range min(con, api.MaxFields) {
				c.Fields = append(c.Fields, api.Type((i*con+field)%(api.MaxDatas+1)))
			}
			data.Cons = append(data.Cons, c)
		}
		d = append(d, data)
	}
	return d
}

// someTypes are types that a table has and does not have.
func someTypes(d []api.Data) []api.Type {
	out := []api.Type{-1 << 63, -1 << 32, -2, -1}
	for t := range len(d) + 3 {
		out = append(out, api.Type(t))
	}
	return append(out, 1<<32, 1<<32+1, 1<<63-1)
}

// brief returns a value for a message, for which it may be too long.
func brief(v any) string {
	text := fmt.Sprint(v)
	return text[:min(len(text), 500)]
}

func checkCheck(t *testing.T, d []api.Data, want api.Errno) {
	t.Helper()
	if e := Check(d); e != want {
		t.Fatalf("Check(%s) is %d, want %d", brief(d), e, want)
	}
}

func checkReach(t *testing.T, d []api.Data, of api.Type, want ...api.Type) {
	t.Helper()
	if got := Reach(d, of); !slices.Equal(got, want) {
		t.Fatalf("Reach(%s, %d) is %s, want %s", brief(d), of, brief(got), brief(want))
	}
}

// checkAll compares what all functions return for a table with plain functions.
func checkAll(t *testing.T, d []api.Data) {
	t.Helper()
	checkCheck(t, d, plainCheck(d))
	reaches := plainReaches(d)
	for _, of := range someTypes(d) {
		checkReach(t, d, of, plainReach(d, of, nil)...)
		if got, want := Recursive(d, of), reaches[[2]api.Type{of, of}]; got != want {
			t.Fatalf("Recursive(%s, %d) is %v", brief(d), of, got)
		}
		var cons []api.Con
		name, isFlat := "", of == api.Int
		if of == api.Int {
			name = "Int"
		} else if of >= 1 && int(of) <= len(d) {
			name, cons, isFlat = d[of-1].Name, d[of-1].Cons, true
		}
		for con := -2; con < len(cons)+3; con++ {
			want := 0
			if con >= 0 && con < len(cons) && len(cons[con].Fields) > 0 {
				want, isFlat = 1, false
			}
			if got := Cells(d, of, con); got != want {
				t.Fatalf("Cells(%s, %d, %d) is %d", brief(d), of, con, got)
			}
		}
		if got := Flat(d, of); got != isFlat {
			t.Fatalf("Flat(%s, %d) is %v", brief(d), of, got)
		}
		if got := Name(d, of); got != name {
			t.Fatalf("Name(%s, %d) is %q, want %q", brief(d), of, got, name)
		}
	}
	checkFound(t, d)
}

// checkFound checks that the types and constructors of a table are found by their names, where a name finds the first one.
func checkFound(t *testing.T, d []api.Data) {
	t.Helper()
	types, cons := map[string]api.Type{"Int": api.Int}, map[string]api.Place{}
	for i, data := range d {
		if _, ok := types[data.Name]; !ok {
			types[data.Name] = api.Type(i + 1)
		}
		for con, c := range data.Cons {
			if _, ok := cons[c.Name]; !ok {
				cons[c.Name] = api.Place{Type: api.Type(i + 1), Con: con}
			}
		}
	}
	check := func(name string) {
		t.Helper()
		wantType, wantFound := types[name]
		if got, found := Type(d, name); got != wantType || found != wantFound {
			t.Fatalf("Type(%s, %q) is %d, %v, want %d", brief(d), name, got, found, wantType)
		}
		wantCon, wantFound := cons[name]
		if got, con, found := Con(d, name); got != wantCon.Type || con != wantCon.Con || found != wantFound {
			t.Fatalf("Con(%s, %q) is %d, %d, %v, want %v", brief(d), name, got, con, found, wantCon)
		}
	}
	for name := range types {
		check(name)
		check(name + "x")
		check(strings.ToLower(name))
		check(strings.TrimSuffix(name, "t"))
	}
	for name := range cons {
		check(name)
		check(" " + name)
	}
	for _, name := range []string{"", "Bool", "True", "int", "INT", "_", "\x00"} {
		check(name)
	}
}

var plainName = regexp.MustCompile(`^[A-Z][A-Za-z0-9_]{0,31}$`)

// plainCheck checks a table as the chapter says it. It is slow for tables with many types.
func plainCheck(d []api.Data) api.Errno {
	isBool := len(d) > 0 && d[0].Name == "Bool" && len(d[0].Cons) == 2 && d[0].Cons[0].Name == "False" && d[0].Cons[1].Name == "True" && len(d[0].Cons[0].Fields)+len(d[0].Cons[1].Fields) == 0
	found := map[api.Errno]bool{api.ErrMany: len(d) > 64, api.ErrForm: !isBool}
	types, cons := []string{"Int"}, []string(nil)
	for i, data := range d {
		found[api.ErrMany] = found[api.ErrMany] || len(data.Cons) > 16
		found[api.ErrForm] = found[api.ErrForm] || len(data.Cons) == 0 || !plainName.MatchString(data.Name)
		types = append(types, data.Name)
		for _, c := range data.Cons {
			found[api.ErrMany] = found[api.ErrMany] || len(c.Fields) > 6
			found[api.ErrForm] = found[api.ErrForm] || !plainName.MatchString(c.Name)
			cons = append(cons, c.Name)
			for _, field := range c.Fields {
				found[api.ErrType] = found[api.ErrType] || field < 0 || field > api.Type(len(d))
			}
		}
		found[api.ErrDeep] = found[api.ErrDeep] || !plainFinite(d, api.Type(i+1), nil)
	}
	for _, list := range [][]string{types, cons} {
		slices.Sort(list)
		found[api.ErrTwice] = found[api.ErrTwice] || len(slices.Compact(slices.Clone(list))) < len(list)
	}
	for _, e := range []api.Errno{api.ErrMany, api.ErrForm, api.ErrTwice, api.ErrType, api.ErrDeep} {
		if found[e] {
			return e
		}
	}
	return api.OK
}

// plainFinite reports whether a type has a value in which no type contains itself, nor one of the types around it. If it has a finite value, it has such a one.
func plainFinite(d []api.Data, t api.Type, around []api.Type) bool {
	if t < 1 || int(t) > len(d) {
		return t == api.Int
	}
	if slices.Contains(around, t) {
		return false
	}
	around = append(slices.Clone(around), t)
	for _, c := range d[t-1].Cons {
		all := true
		for _, field := range c.Fields {
			all = all && plainFinite(d, field, around)
		}
		if all {
			return true
		}
	}
	return false
}

// plainReach returns a list with the types that a type reaches and that are not in it yet.
func plainReach(d []api.Data, t api.Type, list []api.Type) []api.Type {
	if t < 0 || int(t) > len(d) || slices.Contains(list, t) {
		return list
	}
	list = append(list, t)
	if t > 0 {
		for _, c := range d[t-1].Cons {
			for _, field := range c.Fields {
				list = plainReach(d, field, list)
			}
		}
	}
	return list
}

// plainReaches has the pairs of types the first of which has a field that reaches the second one.
func plainReaches(d []api.Data) map[[2]api.Type]bool {
	out := map[[2]api.Type]bool{}
	for i, data := range d {
		for _, c := range data.Cons {
			for _, field := range c.Fields {
				if field >= 0 && int(field) <= len(d) {
					out[[2]api.Type{api.Type(i + 1), field}] = true
				}
			}
		}
	}
	for by := range api.Type(len(d) + 1) {
		for from := range api.Type(len(d) + 1) {
			for to := range api.Type(len(d) + 1) {
				if out[[2]api.Type{from, by}] && out[[2]api.Type{by, to}] {
					out[[2]api.Type{from, to}] = true
				}
			}
		}
	}
	return out
}

// drawn makes tables.
type drawn struct{ *rand.Rand }

func newDrawn(seed int64) drawn {
	return drawn{rand.New(rand.NewSource(seed))}
}

// table returns a table with a number of types besides Bool, which is valid if each of these has a finite value.
func (d drawn) table(types int) []api.Data {
	out := table(boolLine)
	for i := range types {
		data := api.Data{Name: "T" + strconv.Itoa(i)}
		for con := range 1 + d.Intn(3) {
			c := api.Con{Name: "C" + strconv.Itoa(i) + "_" + strconv.Itoa(con)}
			for range d.Intn(4) {
				c.Fields = append(c.Fields, api.Type(d.Intn(types+2)))
			}
			data.Cons = append(data.Cons, c)
		}
		out = append(out, data)
	}
	return out
}

// disturbed returns a table that is changed at one place.
func (d drawn) disturbed(from []api.Data) []api.Data {
	return changed(from, func(to []api.Data) {
		data := &to[d.Intn(len(to))]
		c := &data.Cons[d.Intn(len(data.Cons))]
		names := []string{"", "Int", "Bool", "True", "T0", "C0_0", "x", "_X", "X-", "Xé", "X\n", "X" + strings.Repeat("x", api.MaxName-1), "X" + strings.Repeat("x", api.MaxName)}
		name := names[d.Intn(len(names))]
		field := []api.Type{-1 << 63, -1, 0, 1, api.Type(len(to)), api.Type(len(to) + 1), 1<<63 - 1}[d.Intn(7)]
		switch d.Intn(8) {
		case 0:
			data.Name = name
		case 1:
			c.Name = name
		case 2:
			data.Cons = data.Cons[:d.Intn(len(data.Cons)+1)]
		case 3:
			data.Cons = append(data.Cons, slices.Repeat([]api.Con{{Name: name}}, d.Intn(api.MaxCons+1))...)
		case 4:
			c.Fields = append(c.Fields, slices.Repeat([]api.Type{field}, d.Intn(api.MaxFields+1))...)
		case 5:
			c.Fields = []api.Type{field}
		case 6:
			i, j := d.Intn(len(to)), d.Intn(len(to))
			to[i], to[j] = to[j], to[i]
		case 7:
			data.Cons = slices.DeleteFunc(data.Cons, func(c api.Con) bool { return len(c.Fields) == 0 })
		}
	})
}

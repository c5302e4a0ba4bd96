package shape

import (
	"fmt"
	"math/rand"
	"slices"
	"strconv"
	"strings"
	"testing"

	"cellarer/api"
)

// table returns the table of Bool and lines like List = Nil | Cons Int List. The type of a field is Int, the name of a type, or a number. Nothing is checked.
func table(lines ...string) []api.Data {
	lines = slices.Concat([]string{"Bool = False | True"}, lines)
	types := map[string]api.Type{"Int": api.Int}
	for i, line := range lines {
		types[strings.Fields(line)[0]] = api.Type(i + 1)
	}
	var d []api.Data
	for _, line := range lines {
		name, cons, _ := strings.Cut(line, " = ")
		data := api.Data{Name: name}
		for con := range strings.SplitSeq(cons, " | ") {
			words := strings.Fields(con)
			c := api.Con{Name: words[0]}
			for _, word := range words[1:] {
				t, ok := types[word]
				if n, err := strconv.Atoi(word); !ok && err == nil {
					t = api.Type(n)
				} else if !ok {
					panic(word)
				}
				c.Fields = append(c.Fields, t)
			}
			data.Cons = append(data.Cons, c)
		}
		d = append(d, data)
	}
	return d
}

// longName returns a name that is as long as a name may be.
func longName(letter string, number int) string {
	digits := strconv.Itoa(number)
	return letter + strings.Repeat("_", api.MaxName-1-len(digits)) + digits
}

// largest returns a valid table with as many types, constructors and fields as there may be, in which each type but Bool reaches all others that come behind it, and the last one all of them.
func largest() []api.Data {
	d := table()
	for i := 1; i < api.MaxDatas; i++ {
		data := api.Data{Name: longName("T", i)}
		for con := range api.MaxCons {
			c := api.Con{Name: longName("C", i*api.MaxCons+con)}
			if con == 3 {
				c.Fields = []api.Type{api.Int, api.Bool, api.Bool, api.Type(2 + i%(api.MaxDatas-1)), api.Int, api.Bool}
			}
			data.Cons = append(data.Cons, c)
		}
		d = append(d, data)
	}
	return d
}

// drawn returns a valid table with a number of types besides Bool.
func drawn(r *rand.Rand, types int) []api.Data {
	d := table()
	for i := range types {
		name := strconv.Itoa(i)
		data := api.Data{Name: "T" + name, Cons: []api.Con{{Name: "E" + name}}}
		for con := range r.Intn(3) {
			c := api.Con{Name: "C" + name + "_" + strconv.Itoa(con)}
			for range 1 + r.Intn(3) {
				c.Fields = append(c.Fields, api.Type(r.Intn(types+2)))
			}
			data.Cons = append(data.Cons, c)
		}
		r.Shuffle(len(data.Cons), func(i, j int) { data.Cons[i], data.Cons[j] = data.Cons[j], data.Cons[i] })
		d = append(d, data)
	}
	return d
}

// someTypes are types that a table has and does not have.
func someTypes(d []api.Data) []api.Type {
	out := []api.Type{-1 << 63, -1 << 32, -1}
	for t := range len(d) + 3 {
		out = append(out, api.Type(t))
	}
	return append(out, 1<<32, 1<<32+1, 1<<63-1)
}

func isTypeOf(d []api.Data, t api.Type) bool {
	return t >= 0 && t <= api.Type(len(d))
}

// plainFlat reports whether a type is Int, or has no constructor with fields.
func plainFlat(d []api.Data, t api.Type) bool {
	return t == 0 || !slices.ContainsFunc(d[t-1].Cons, func(c api.Con) bool { return len(c.Fields) > 0 })
}

// plainContents returns a list with the contents of a type that are not in it yet.
func plainContents(d []api.Data, t api.Type, list []api.Type) []api.Type {
	if plainFlat(d, t) || slices.Contains(list, t) {
		return list
	}
	list = append(list, t)
	for _, c := range d[t-1].Cons {
		for _, field := range c.Fields {
			list = plainContents(d, field, list)
		}
	}
	return list
}

// plainShape returns the shape of a type as the chapter says it.
func plainShape(d []api.Data, t api.Type) []api.Place {
	var out []api.Place
	for _, content := range plainContents(d, t, nil) {
		for con := range d[content-1].Cons {
			out = append(out, api.Place{Type: content, Con: con})
		}
	}
	return out
}

// brief returns a value for a message, for which it may be too long.
func brief(v any) string {
	text := fmt.Sprint(v)
	return text[:min(len(text), 500)]
}

func checkOf(t *testing.T, d []api.Data, of api.Type, want []api.Place) {
	t.Helper()
	if got := Of(d, of); !slices.Equal(got, want) {
		t.Fatalf("Of(%s, %d) is %s, want %s", brief(d), of, brief(got), brief(want))
	}
}

func checkIndex(t *testing.T, d []api.Data, of api.Type, p api.Place, want int) {
	t.Helper()
	if got := Index(d, of, p); got != want {
		t.Fatalf("Index(%s, %d, %v) is %d, want %d", brief(d), of, p, got, want)
	}
}

func checkInside(t *testing.T, d []api.Data, of, field api.Type, wantError api.Errno, want ...int) {
	t.Helper()
	if got, e := Inside(d, of, field); !slices.Equal(got, want) || e != wantError {
		t.Fatalf("Inside(%s, %d, %d) is %s, %d, want %s, %d", brief(d), of, field, brief(got), e, brief(want), wantError)
	}
}

func checkText(t *testing.T, d []api.Data, of api.Type, wantError api.Errno, want string) {
	t.Helper()
	if got, e := Text(d, of); got != want || e != wantError {
		t.Fatalf("Text(%s, %d) is %s, %d, want %s, %d", brief(d), of, brief(got), e, brief(want), wantError)
	}
}

// checkAll compares what all functions return for a valid table with plain functions.
func checkAll(t *testing.T, d []api.Data) {
	t.Helper()
	for _, of := range someTypes(d) {
		var places []api.Place
		if !isTypeOf(d, of) {
			checkOf(t, d, of, nil)
			checkIndex(t, d, of, api.Place{Type: of}, -1)
			checkText(t, d, of, api.ErrRange, "")
		} else {
			places = plainShape(d, of)
			checkOf(t, d, of, places)
			checkPlaces(t, d, of, places)
		}
		for _, field := range someTypes(d) {
			if !isTypeOf(d, of) || !isTypeOf(d, field) {
				checkInside(t, d, of, field, api.ErrRange)
			} else if !plainFlat(d, field) && !slices.Contains(plainContents(d, of, nil), field) {
				checkInside(t, d, of, field, api.ErrNone)
			} else {
				var want []int
				for _, p := range plainShape(d, field) {
					want = append(want, slices.Index(places, p))
				}
				checkInside(t, d, of, field, api.OK, want...)
			}
		}
	}
}

// checkPlaces checks the text of a shape, and the index of places that it has and of ones that it does not have.
func checkPlaces(t *testing.T, d []api.Data, of api.Type, places []api.Place) {
	t.Helper()
	var names []string
	for i, p := range places {
		names = append(names, d[p.Type-1].Cons[p.Con].Name)
		checkIndex(t, d, of, p, i)
	}
	checkText(t, d, of, api.OK, strings.Join(names, " "))
	for _, other := range someTypes(d) {
		for _, con := range []int{-1 << 63, -1, 0, 1, 2, 3, 4, api.MaxCons, 1<<63 - 1} {
			p := api.Place{Type: other, Con: con}
			checkIndex(t, d, of, p, slices.Index(places, p))
		}
	}
}

// checkRejected checks that there are no shapes in a table.
func checkRejected(t *testing.T, d []api.Data) {
	t.Helper()
	for _, of := range someTypes(d[:min(len(d), 5)]) {
		checkOf(t, d, of, nil)
		checkText(t, d, of, api.ErrForm, "")
		for _, p := range []api.Place{{}, {Type: of}, {Type: 1}, {Type: 1, Con: 1}, {Type: 2}, {Type: 2, Con: 1}, {Type: -1, Con: -1}} {
			checkIndex(t, d, of, p, -1)
		}
		for _, field := range someTypes(d[:min(len(d), 5)]) {
			checkInside(t, d, of, field, api.ErrForm)
		}
	}
}

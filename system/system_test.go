package system

import (
	"math"
	"slices"
	"strings"
	"testing"

	"cellarer/api"
)

// validSystems are systems beside the limits, and some ordinary ones.
func validSystems() []api.System {
	return []api.System{
		{},
		{Cols: 3},
		{Cols: api.MaxCols},
		rows(0, "0 >= 0", "-1 = 0", "5/2 >= 0"),
		rows(2, "1/2 x0 + -1/3 x1 >= 0", "-2 x0 + 4 = 0"),
		rows(2, "1 x0 >= 0", "1 x0 >= 0", "2 x0 >= 0", "-1 >= 0"),
		rows(1, "1 x0 >= 0 # -9223372036854775808", "1 x0 >= 0 # 9223372036854775807"),
		rows(3, longest+" x0 + -"+longest+" x2 + 1/"+longest+" >= 0"),
		rows(api.MaxCols, "1 x0 + 1 x2047 = 0"),
		many(1, api.MaxRows, "1 x0 >= 0"),
	}
}

// badRows are rows that no system with three columns has.
func badRows() []api.Row {
	bad := []api.Row{
		{},
		row("1 x-1 >= 0"),
		row("1 x3 >= 0"),
		row("1 x0 + 1 x3 >= 0"),
		row("1 x9223372036854775807 = 0"),
		row("1 x1 + 1 x0 >= 0"),
		row("1 x1 + 1 x1 >= 0"),
		row("1 x0 + 1 x2 + 1 x1 = 0"),
		row("0 x0 >= 0"),
		row("1 x0 + 0 x1 >= 0"),
	}
	for _, s := range []string{"", "x", "-", "-0", "+1", "01", "2/4", "1/1", "0/2", "1/0", "1/-2", "1.5", tooLong, "1/" + tooLong} {
		bad = append(bad, api.Row{Const: s}, api.Row{Const: s, Terms: row("1 x0 >= 0").Terms}, api.Row{Const: "0", Terms: []api.Term{{Col: 0, Coef: "1"}, {Col: 1, Coef: s}}})
	}
	return bad
}

// badSystems are systems that are not valid, and what Check says of them.
func badSystems() map[api.Errno][]api.System {
	bad := map[api.Errno][]api.System{
		api.ErrMany: {many(1, api.MaxRows+1, "1 x0 >= 0"), many(0, api.MaxRows+1, "0 x5 + x >= 0"), many(0, 3*api.MaxRows, "1 >= 0")},
	}
	for _, cols := range []int{-1, math.MinInt, api.MaxCols + 1, math.MaxInt} {
		bad[api.ErrRange] = append(bad[api.ErrRange], api.System{Cols: cols}, many(cols, api.MaxRows+1, "1 x0 >= 0"), rows(cols, "0 x0 + x >= 0"))
	}
	for _, r := range badRows() {
		good := row("1 x0 + 1 x2 + -1 >= 0")
		for _, l := range [][]api.Row{{r}, {r, good}, {good, good, r}} {
			bad[api.ErrForm] = append(bad[api.ErrForm], api.System{Cols: 3, Rows: l})
		}
	}
	bad[api.ErrForm] = append(bad[api.ErrForm], rows(0, "1 x0 >= 0"), rows(api.MaxCols, "1 x2048 >= 0"), many(1, api.MaxRows, "1 x1 >= 0"))
	return bad
}

func TestCheck(t *testing.T) {
	for _, s := range validSystems() {
		if e := Check(s); e != api.OK {
			t.Errorf("Check of a valid system with %d columns and the rows %v is %d", s.Cols, s.Rows, e)
		}
	}
	for want, systems := range badSystems() {
		for _, s := range systems {
			if e := Check(s); e != want {
				t.Errorf("Check of a system with %d columns and %d rows is %d, want %d", s.Cols, len(s.Rows), e, want)
			}
		}
	}
}

// TestFormErrors checks that every function rejects what Check rejects, whatever else is wrong.
func TestFormErrors(t *testing.T) {
	full := many(api.MaxCols, api.MaxRows, "1 x0 >= 0")
	for _, systems := range badSystems() {
		for _, bad := range systems {
			for _, values := range [][]string{nil, {"1", "1", "1"}, {"-1", "x"}} {
				if ok, e := Holds(bad, values); ok || e != api.ErrForm {
					t.Errorf("Holds for %v is %v, %d, want ErrForm", bad, ok, e)
				}
				if i, e := Violated(bad, values); i != 0 || e != api.ErrForm {
					t.Errorf("Violated for %v is %d, %d, want ErrForm", bad, i, e)
				}
			}
			for _, operate := range []func(a, b api.System) (api.System, api.Errno){Join, Append} {
				got, e := operate(bad, full)
				checkError(t, "the result for a first system that is not valid", got, e, api.ErrForm)
				got, e = operate(full, bad)
				checkError(t, "the result for a second system that is not valid", got, e, api.ErrForm)
			}
			got, e := Normal(bad)
			checkError(t, "Normal of a system that is not valid", got, e, api.ErrForm)
			if text, e := Text(bad); text != "" || e != api.ErrForm {
				t.Errorf("Text of %v is %q, %d, want ErrForm", bad, text, e)
			}
		}
	}
}

func TestHoldsAndViolated(t *testing.T) {
	example := rows(2, "1/2 x0 + -1/3 x1 >= 0", "-2 x0 + 4 = 0")
	for _, c := range []struct {
		s        api.System
		values   string
		holds    bool
		violated int
	}{
		{example, "2 3", true, -1},
		{example, "2 4", false, 0},
		{example, "3 4", false, 1},
		{example, "3 5", false, 0},
		{example, "2 -1", false, -1},
		{example, "-1 -1", false, 0},
		{api.System{}, "", true, -1},
		{rows(0, "0 >= 0", "0 = 0", "1/3 >= 0"), "", true, -1},
		{rows(0, "0 >= 0", "1/3 = 0"), "", false, 1},
		{rows(0, "0 >= 0", "-1/3 = 0"), "", false, 1},
		{rows(0, "-1/3 >= 0"), "", false, 0},
		{api.System{Cols: 2}, "0 7/2", true, -1},
		{api.System{Cols: 2}, "0 -7/2", false, -1},
		{rows(1, "-1 x0 + -1 >= 0"), "-1", false, -1},
		{rows(1, "-1 x0 + -1 >= 0"), "-1/2", false, 0},
		{rows(3, "1 x2 + -1 = 0"), "0 0 1", true, -1},
		{rows(3, longest+" x0 + -1 x1 >= 0"), "1 " + longest + " 0", true, -1},
	} {
		values := strings.Fields(c.values)
		if got, e := Holds(c.s, values); got != c.holds || e != api.OK {
			t.Errorf("Holds for %v and %q is %v, %d, want %v", c.s, values, got, e, c.holds)
		}
		if got, e := Violated(c.s, values); got != c.violated || e != api.OK {
			t.Errorf("Violated for %v and %q is %d, %d, want %d", c.s, values, got, e, c.violated)
		}
	}
	d := newDrawn(1)
	for range 2000 {
		s := d.system(d.Intn(5), d.Intn(4))
		values := d.values(s.Cols)
		if got, e := Holds(s, values); got != plainHolds(s, values) || e != api.OK {
			t.Fatalf("Holds for %v and %q is %v, %d", s, values, got, e)
		}
		if got, e := Violated(s, values); got != plainViolated(s, values) || e != api.OK {
			t.Fatalf("Violated for %v and %q is %d, %d, want %d", s, values, got, e, plainViolated(s, values))
		}
	}
}

func TestHoldsAndViolatedErrors(t *testing.T) {
	s := rows(2, "10 x0 >= 0", "1 x1 >= 0")
	for _, c := range []struct {
		s        api.System
		values   string
		violated api.Errno
		holds    api.Errno
	}{
		{s, "", api.ErrRange, api.ErrRange},
		{s, "1", api.ErrRange, api.ErrRange},
		{s, "1 1 1", api.ErrRange, api.ErrRange},
		{s, "x", api.ErrRange, api.ErrRange},
		{s, "1 x 1", api.ErrRange, api.ErrRange},
		{api.System{}, "1", api.ErrRange, api.ErrRange},
		{s, "1 x", api.ErrForm, api.ErrForm},
		{s, "2/4 1", api.ErrForm, api.ErrForm},
		{s, "-1 " + tooLong, api.ErrForm, api.ErrForm},
		{s, longest + " x", api.ErrForm, api.ErrForm},
		{api.System{Cols: 1}, "01", api.ErrForm, api.ErrForm},
		{s, longest + " 1", api.ErrLong, api.ErrLong},
		// A violated row ends the evaluation, and a negative value prevents it.
		{rows(2, "10 x0 >= 0", "-1 x1 >= 0"), longest + " 1", api.ErrLong, api.ErrLong},
		{rows(2, "-1 x1 >= 0", "10 x0 >= 0"), longest + " 1", api.OK, api.OK},
		{s, longest + " -1", api.ErrLong, api.OK},
		// The products come before the sums, which go on from term to term.
		{rows(2, "10 x0 + -10 x1 = 0"), longest + " " + longest, api.ErrLong, api.ErrLong},
		{rows(2, "1 x0 + -1 x1 + "+longest+" >= 0"), "1 1", api.ErrLong, api.ErrLong},
		{rows(2, "-1 x0 + 1 x1 + "+longest+" >= 0"), "1 1", api.OK, api.OK},
	} {
		values := strings.Fields(c.values)
		if got, e := Violated(c.s, values); e != c.violated || e != api.OK && got != 0 {
			t.Errorf("Violated for %v and %q is %d, %d, want %d", c.s, values, got, e, c.violated)
		}
		if got, e := Holds(c.s, values); e != c.holds || e != api.OK && got {
			t.Errorf("Holds for %v and %q is %v, %d, want %d", c.s, values, got, e, c.holds)
		}
	}
}

func TestJoinAndAppend(t *testing.T) {
	a := rows(2, "1 x0 + -1 x1 + 3 >= 0 # 5", "1 = 0")
	b := rows(3, "2 x0 + 1/2 x2 = 0 # -1", "1 x0 + -1 x1 + 3 >= 0 # 5")
	for _, c := range []struct{ a, b, join, append api.System }{
		{a, b,
			rows(3, "1 x0 + -1 x1 + 3 >= 0 # 5", "1 = 0", "2 x0 + 1/2 x2 = 0 # -1", "1 x0 + -1 x1 + 3 >= 0 # 5"),
			rows(5, "1 x0 + -1 x1 + 3 >= 0 # 5", "1 = 0", "2 x2 + 1/2 x4 = 0 # -1", "1 x2 + -1 x3 + 3 >= 0 # 5")},
		{b, a,
			rows(3, "2 x0 + 1/2 x2 = 0 # -1", "1 x0 + -1 x1 + 3 >= 0 # 5", "1 x0 + -1 x1 + 3 >= 0 # 5", "1 = 0"),
			rows(5, "2 x0 + 1/2 x2 = 0 # -1", "1 x0 + -1 x1 + 3 >= 0 # 5", "1 x3 + -1 x4 + 3 >= 0 # 5", "1 = 0")},
		{a, api.System{}, a, a},
		{api.System{}, a, a, a},
		{a, api.System{Cols: 4}, rows(4, "1 x0 + -1 x1 + 3 >= 0 # 5", "1 = 0"), rows(6, "1 x0 + -1 x1 + 3 >= 0 # 5", "1 = 0")},
		{api.System{}, api.System{}, api.System{}, api.System{}},
		{rows(0, "1 >= 0"), rows(0, "1 >= 0"), rows(0, "1 >= 0", "1 >= 0"), rows(0, "1 >= 0", "1 >= 0")},
	} {
		got, e := Join(c.a, c.b)
		check(t, "Join", got, e, c.join)
		got, e = Append(c.a, c.b)
		check(t, "Append", got, e, c.append)
	}
}

func TestJoinAndAppendLimits(t *testing.T) {
	half := many(1, api.MaxRows/2, "1 x0 >= 0")
	got, e := Join(half, half)
	check(t, "Join with MaxRows rows", got, e, many(1, api.MaxRows, "1 x0 >= 0"))
	got, e = Append(many(0, api.MaxRows/2, "1 >= 0"), half)
	check(t, "Append with MaxRows rows", got, e, api.System{Cols: 1, Rows: slices.Concat(many(0, api.MaxRows/2, "1 >= 0").Rows, half.Rows)})
	more := many(1, api.MaxRows/2+1, "1 x0 >= 0")
	for _, operate := range []func(a, b api.System) (api.System, api.Errno){Join, Append} {
		got, e := operate(half, more)
		checkError(t, "a result with more than MaxRows rows", got, e, api.ErrMany)
		got, e = operate(more, half)
		checkError(t, "a result with more than MaxRows rows", got, e, api.ErrMany)
	}
	wide := rows(api.MaxCols, "1 x2047 >= 0")
	got, e = Join(wide, wide)
	check(t, "Join with MaxCols columns", got, e, rows(api.MaxCols, "1 x2047 >= 0", "1 x2047 >= 0"))
	got, e = Append(rows(api.MaxCols-1, "1 x2046 >= 0"), rows(1, "1 x0 >= 0"))
	check(t, "Append with MaxCols columns", got, e, rows(api.MaxCols, "1 x2046 >= 0", "1 x2047 >= 0"))
	for _, s := range []api.System{{Cols: 1}, {Cols: api.MaxCols}} {
		got, e = Append(wide, s)
		checkError(t, "Append with more than MaxCols columns", got, e, api.ErrMany)
		got, e = Append(s, wide)
		checkError(t, "Append with more than MaxCols columns", got, e, api.ErrMany)
	}
}

// TestJoinAndAppendHold checks which values hold for systems that are put together.
func TestJoinAndAppendHold(t *testing.T) {
	d := newDrawn(2)
	held := 0
	for range 4000 {
		a, b := d.system(2, d.Intn(3)), d.system(2, d.Intn(3))
		values, others := d.values(2), d.values(2)
		join, _ := Join(a, b)
		want := plainHolds(a, values) && plainHolds(b, values)
		if got, e := Holds(join, values); got != want || e != api.OK {
			t.Fatalf("%q hold for Join of %v and %v: %v, %d", values, a, b, got, e)
		}
		appended, _ := Append(a, b)
		want = plainHolds(a, values) && plainHolds(b, others)
		if got, e := Holds(appended, slices.Concat(values, others)); got != want || e != api.OK {
			t.Fatalf("%q and %q hold for Append of %v and %v: %v, %d", values, others, a, b, got, e)
		}
		if want {
			held++
		}
	}
	if held < 20 {
		t.Errorf("only %d of the drawn values hold", held)
	}
}

// TestMemory checks that arguments, and their spare capacity, stay as they are, and that no result shares memory with them or within itself.
func TestMemory(t *testing.T) {
	spare := func(s api.System) api.System {
		for i, r := range s.Rows {
			s.Rows[i].Terms = append(make([]api.Term, 0, len(r.Terms)+3), r.Terms...)
		}
		s.Rows = append(make([]api.Row, 0, len(s.Rows)+3), s.Rows...)
		return s
	}
	make := func() []api.System {
		return []api.System{
			spare(rows(2, "1 x0 + -1 x1 + 3 >= 0 # 5", "2 x0 + 4 x1 = 0", "3 x0 + -1 = 0")),
			spare(rows(2, "1 x0 + 1 x1 = 0", "1 x0 + 1 >= 0")),
			spare(rows(2, "-1 >= 0", "1 x0 >= 0")),
		}
	}
	arguments, before := make(), make()
	var results []api.System
	for _, a := range arguments {
		for _, b := range arguments {
			join, _ := Join(a, b)
			appended, _ := Append(a, b)
			results = append(results, join, appended)
		}
		normal, _ := Normal(a)
		text, _ := Text(a)
		parsed, _, _ := Parse(text)
		results = append(results, normal, parsed)
		Check(a)
		Holds(a, []string{"1", "2"})
		Violated(a, []string{"1", "2"})
	}
	for _, s := range results {
		for i := range s.Rows[:cap(s.Rows)] {
			terms := s.Rows[:cap(s.Rows)][i].Terms
			for j := range terms[:cap(terms)] {
				terms[:cap(terms)][j].Col += 1000
				if col := terms[:cap(terms)][j].Col; col >= 2000 {
					t.Errorf("rows of %v share terms", s)
				}
			}
			s.Rows[:cap(s.Rows)][i] = row("7 x7 + 7 = 0")
		}
	}
	for i, s := range arguments {
		for j := range s.Rows {
			terms, old := s.Rows[j].Terms, before[i].Rows[j].Terms
			if !slices.Equal(terms[:cap(terms)], old[:cap(old)]) {
				t.Errorf("the terms of an argument have become %v, they were %v", terms[:cap(terms)], old[:cap(old)])
			}
		}
		if !same(api.System{Rows: s.Rows[:cap(s.Rows)]}, api.System{Rows: before[i].Rows[:cap(s.Rows)]}) {
			t.Errorf("an argument has become %v, it was %v", s, before[i])
		}
	}
}

package culprit

import (
	"slices"
	"testing"

	"cellarer/api"
	"cellarer/simplex"
)

// example returns the system of the chapter's examples.
func example() api.System {
	return rows(2, "1 x0 + -3 >= 0", "1 x1 + -1 >= 0", "-1 x0 + 2 >= 0", "-1 x0 + 1 >= 0")
}

func TestExamples(t *testing.T) {
	s := example()
	checkCulprits(t, s, []int{0, 2}, api.OK)
	checkMinimal(t, s, []int{0, 2}, true, api.OK)
	checkMinimal(t, s, []int{0, 3}, true, api.OK)
	checkRelax(t, rows(2, "1 x0 + -3 >= 0", "-1 x0 + 2 >= 0"), "1")
	checkRelax(t, s, "2")
}

func TestCulprits(t *testing.T) {
	for _, c := range []struct {
		s    api.System
		want []int
	}{
		{rows(0, "-1 >= 0"), []int{0}},
		{rows(0, "1 = 0"), []int{0}},
		{rows(0, "1 >= 0", "-1 >= 0", "0 = 0", "-1 = 0", "-2 >= 0"), []int{1}},
		{rows(1, "1 x0 + 1 = 0"), []int{0}},
		{rows(3, "-1 x2 + -1 >= 0", "1 x0 >= 0"), []int{0}},
		// Of two equal rows the first one remains.
		{rows(1, "1 x0 + -3 >= 0", "1 x0 + -3 >= 0", "-1 x0 + 2 >= 0", "-1 x0 + 2 >= 0"), []int{0, 2}},
		{rows(1, "-1 x0 + 2 >= 0", "1 x0 + -3 = 0", "1 x0 + -4 = 0", "-1 x0 + 1 >= 0"), []int{0, 1}},
		{rows(1, "1 x0 + -3 = 0", "1 x0 + -4 = 0", "-1 x0 + 2 >= 0", "-1 x0 + 1 >= 0"), []int{0, 1}},
		{rows(1, "-1 x0 + 1 >= 0", "-1 x0 + 2 >= 0", "1 x0 + -4 = 0", "1 x0 + -3 = 0"), []int{0, 2}},
		// Only all of them together are contradictory.
		{rows(2, "-1 x0 + 1 >= 0", "-1 x1 + 1 >= 0", "1 x0 + 1 x1 + -3 >= 0"), []int{0, 1, 2}},
		{rows(2, "-1 x0 + 1 >= 0", "-1 x1 + 1 >= 0", "5 >= 0", "1 x0 + 1 x1 + -3 >= 0", "-1 x0 + -1 x1 + 2 >= 0"), []int{0, 1, 3}},
		{rows(2, "-1 x0 + -1 x1 + 2 >= 0", "-1 x0 + 1 >= 0", "-1 x1 + 1 >= 0", "5 >= 0", "1 x0 + 1 x1 + -3 >= 0"), []int{0, 4}},
	} {
		checkCulprits(t, c.s, c.want, api.OK)
		checkMinimal(t, c.s, c.want, true, api.OK)
	}
	for _, s := range []api.System{{}, {Cols: 3}, rows(0, "0 >= 0", "1 >= 0", "0 = 0"), rows(1, "1 x0 + -3 >= 0", "-1 x0 + 3 >= 0"), rows(2, "1 x0 + -1 x1 + 1 = 0")} {
		checkCulprits(t, s, nil, api.ErrNone)
	}
}

func TestMinimal(t *testing.T) {
	s := rows(2, "-1 x0 + 1 >= 0", "-1 x1 + 1 >= 0", "1 x0 + 1 x1 + -3 >= 0", "-1 x0 + -1 x1 + 2 >= 0", "-1 >= 0", "1 >= 0")
	for _, subset := range [][]int{{4}, {2, 3}, {3, 2}, {0, 1, 2}, {2, 1, 0}, {1, 2, 0}, {2, 0, 1}} {
		checkMinimal(t, s, subset, true, api.OK)
	}
	for _, subset := range [][]int{nil, {}, {0}, {5}, {0, 1}, {0, 1, 3}, {3, 1, 0}, {0, 2}, {4, 5}, {5, 4}, {0, 1, 2, 3}, {3, 2, 1, 0}, {2, 3, 5}, {0, 1, 2, 3, 4, 5}, {1, 4}} {
		checkMinimal(t, s, subset, false, api.OK)
	}
	checkMinimal(t, api.System{}, nil, false, api.OK)
	checkMinimal(t, api.System{Cols: 3}, []int{}, false, api.OK)
	checkMinimal(t, rows(0, "-1 >= 0", "1 = 0"), []int{1}, true, api.OK)
	checkMinimal(t, rows(0, "-1 >= 0", "1 = 0"), []int{0, 1}, false, api.OK)
}

// TestDrawnSubsets compares drawn systems, and all subsets of their rows, with eliminations.
func TestDrawnSubsets(t *testing.T) {
	d := newDrawn(1)
	sizes, several := map[int]int{}, 0
	for range 1500 {
		s := d.system(1+d.Intn(3), d.Intn(8))
		contradictory := subsets(t, s)
		minimal := 0
		for bits := range contradictory {
			subset := indices(bits)
			d.Shuffle(len(subset), func(i, j int) { subset[i], subset[j] = subset[j], subset[i] })
			want := plainMinimal(contradictory, bits)
			checkMinimal(t, s, subset, want, api.OK)
			if want {
				minimal++
			}
		}
		if minimal > 1 {
			several++
		}
		if !contradictory[len(contradictory)-1] {
			checkCulprits(t, s, nil, api.ErrNone)
			continue
		}
		want := plainCulprits(contradictory)
		checkCulprits(t, s, want, api.OK)
		checkMinimal(t, s, want, true, api.OK)
		sizes[len(want)]++
	}
	if sizes[1] < 100 || sizes[2] < 200 || sizes[3] < 10 || several < 200 {
		t.Errorf("the drawn systems have culprits of the numbers %v, and %d have several minimal subsets", sizes, several)
	}
}

// TestWithoutOne checks that culprits have no solution, but have one without any one of them.
func TestWithoutOne(t *testing.T) {
	d := newDrawn(2)
	for range 200 {
		s := d.system(2+d.Intn(4), 4+d.Intn(8))
		culprits, e := Culprits(s)
		if e == api.ErrNone {
			continue
		}
		for skip := -1; skip < len(culprits); skip++ {
			part := api.System{Cols: s.Cols}
			for place, i := range culprits {
				if place != skip {
					part.Rows = append(part.Rows, s.Rows[i])
				}
			}
			answer, solved := simplex.Feasible(part)
			if e != api.OK || solved != api.OK || (answer.Status == simplex.None) != (skip == -1) {
				t.Fatalf("of the culprits %v, %d of %v, without number %d of them, simplex says %v, %d", culprits, e, s, skip, answer, solved)
			}
		}
	}
}

func TestRelax(t *testing.T) {
	for _, c := range []struct {
		s    api.System
		want string
	}{
		{api.System{}, "0"},
		{api.System{Cols: 3}, "0"},
		{rows(0, "-3/2 >= 0"), "3/2"},
		{rows(0, "3/2 >= 0"), "0"},
		{rows(0, "-3/2 = 0", "1/3 = 0", "-1 >= 0", "1 >= 0", "0 = 0"), "17/6"},
		{rows(1, "1 x0 + -3 >= 0", "-1 x0 + 3 >= 0"), "0"},
		{rows(1, "1 x0 + -3 = 0", "-1 x0 + 5 = 0"), "2"},
		{rows(1, "1 x0 + 3 = 0", "1 x0 + 1 >= 0"), "3"},
		{rows(1, "-1 x0 + -3 = 0"), "3"},
		{rows(1, "-1 x0 + -3 >= 0"), "3"},
		{rows(1, "2 x0 + -3 >= 0", "-1 x0 + 1 >= 0"), "1/2"},
		{rows(1, "1 x0 + -3 >= 0", "-1/2 x0 + 1 >= 0"), "1/2"},
		// The median is the best value.
		{rows(1, "1 x0 + -1 = 0", "1 x0 + -1 = 0", "1 x0 + -2 = 0"), "1"},
		{rows(1, "1 x0 + -1 = 0", "1 x0 + -2 = 0", "1 x0 + -2 = 0"), "1"},
		{rows(2, "-1 x0 + 1 >= 0", "-1 x1 + 1 >= 0", "1 x0 + 1 x1 + -3 >= 0", "4 x0 + -4 x1 = 0"), "1"},
	} {
		checkRelax(t, c.s, c.want)
	}
}

// TestDrawnRelax compares least violations with eliminations, with other values, and with whether there is a solution.
func TestDrawnRelax(t *testing.T) {
	d := newDrawn(3)
	compared, contradictory := 0, 0
	for range 600 {
		s := d.system(d.Intn(4), d.Intn(6))
		least, _, e := Relax(s)
		if e != api.OK {
			t.Fatalf("Relax(%v) returns the error %d", s, e)
		}
		checkRelax(t, s, least)
		if want, ok := eliminated(t, s); ok {
			compared++
			if least != want {
				t.Fatalf("the least total violation of %v is %s, and by elimination %s", s, least, want)
			}
		}
		answer, e := simplex.Feasible(s)
		if (answer.Status == simplex.None) != (least != "0") || e != api.OK {
			t.Fatalf("the least total violation of %v is %s, and its answer %v, %d", s, least, answer, e)
		}
		if least != "0" {
			contradictory++
		}
		for range 20 {
			values := make([]string, s.Cols)
			for col := range values {
				x := number(d.number())
				values[col] = x.Abs(x).RatString()
			}
			if total := violation(s, values); total.Cmp(number(least)) < 0 {
				t.Fatalf("the least total violation of %v is %s, and that by %q is %v", s, least, values, total)
			}
		}
	}
	if compared < 300 || contradictory < 100 {
		t.Errorf("%d drawn systems are compared, and %d are contradictory", compared, contradictory)
	}
}

// TestMemory checks that arguments do not change, with the memory behind them.
func TestMemory(t *testing.T) {
	s := example()
	s.Rows[1].Eq = true
	kept, spare := slices.Clone(s.Rows), api.Term{Col: 1, Coef: "9"}
	behind := make([][]api.Term, len(s.Rows))
	for i, r := range s.Rows {
		behind[i] = append(slices.Clone(r.Terms), spare, spare)
		s.Rows[i].Terms = behind[i][:len(r.Terms)]
	}
	all := append(s.Rows, api.Row{Const: "9"})
	s.Rows = all[:len(kept)]
	order := append([]int{2, 0}, 9)
	checkCulprits(t, s, []int{0, 2}, api.OK)
	checkMinimal(t, s, order[:2], true, api.OK)
	values := checkRelax(t, s, "2")
	for i := range values {
		values[i] = "-7"
	}
	checkRelax(t, s, "2")
	for i, r := range all[:len(kept)] {
		if !slices.Equal(r.Terms, kept[i].Terms) || r.Const != kept[i].Const || r.Eq != kept[i].Eq || !slices.Equal(behind[i][len(r.Terms):], []api.Term{spare, spare}) {
			t.Errorf("row %d was changed to %v, %v", i, r, behind[i])
		}
	}
	if !slices.Equal(order, []int{2, 0, 9}) || all[len(kept)].Const != "9" {
		t.Errorf("the arguments were changed to %v, %v", order, all)
	}
}

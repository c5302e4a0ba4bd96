package system

import (
	"strconv"
	"strings"
	"testing"

	"cellarer/api"
)

// written are texts and their systems.
func written() map[string]api.System {
	return map[string]api.System{
		"cols 0\n":                      {},
		"cols 2048\n":                   {Cols: api.MaxCols},
		"cols 10\n0 >= 0\n":             rows(10, "0 >= 0"),
		"cols 0\n0 = 0\n-5/3 >= 0\n":    {Rows: []api.Row{{Const: "0", Eq: true}, {Const: "-5/3"}}},
		"cols 1\n1 x0 >= 0\n":           {Cols: 1, Rows: []api.Row{{Const: "0", Terms: []api.Term{{Col: 0, Coef: "1"}}}}},
		"cols 1\n-1 x0 + -1 = 0 # 12\n": {Cols: 1, Rows: []api.Row{{Const: "-1", Terms: []api.Term{{Col: 0, Coef: "-1"}}, Eq: true, Mark: 12}}},
		"cols 2\n1 x0 + -2 = 0\n3 x0 + -2 x1 >= 0\n": {Cols: 2, Rows: []api.Row{
			{Const: "-2", Terms: []api.Term{{Col: 0, Coef: "1"}}, Eq: true},
			{Const: "0", Terms: []api.Term{{Col: 0, Coef: "3"}, {Col: 1, Coef: "-2"}}},
		}},
		"cols 2048\n-1/2 x10 + 7 x2047 + 5/2 >= 0 # -1\n0 >= 0 # 9223372036854775807\n1 = 0 # -9223372036854775808\n": rows(api.MaxCols, "-1/2 x10 + 7 x2047 + 5/2 >= 0 # -1", "0 >= 0 # 9223372036854775807", "1 = 0 # -9223372036854775808"),
		"cols 1\n" + longest + " x0 + -1/" + longest + " >= 0\n":                                                      rows(1, longest+" x0 + -1/"+longest+" >= 0"),
	}
}

// notRows are lines that no row of a system with three columns has.
func notRows() []string {
	return []string{
		"", " ", "0", ">= 0", "= 0", " >= 0", "0 >= 0 ", " 0 >= 0", "0  >= 0", "0 >=0", "0>= 0", "0 > 0", "0 <= 0", "0 == 0", "0 >= 1", "0 = 0 = 0", "0 >= 0 >= 0", "0 = 0 >= 0", "0 >= 0\r", "0\t>= 0", "0 + >= 0",
		"-0 >= 0", "00 >= 0", "+1 >= 0", "2/4 >= 0", "1/1 >= 0", "x >= 0", "- 1 >= 0", "1.5 >= 0", tooLong + " >= 0",
		"x0 >= 0", "-x0 >= 0", "1x0 >= 0", "1 x >= 0", "1 x-1 >= 0", "1 x3 >= 0", "1 x2048 >= 0", "1 x99999999999999999999 >= 0", "1 x00 >= 0", "1 x+1 >= 0", "1  x0 >= 0", "1 x 0 >= 0", "1 X0 >= 0", "1 y0 >= 0", "1 x0x1 >= 0", "1 x0 x1 >= 0", "1 1 x0 >= 0",
		"0 x0 >= 0", "-0 x0 >= 0", "2/4 x0 >= 0", "01 x0 >= 0", tooLong + " x0 >= 0", "a x0 >= 0",
		"1 x0 + 0 >= 0", "1 x0 - 1 >= 0", "1 x0 +1 >= 0", "1 x0+ 1 >= 0", "1 x0  + 1 >= 0", "1 x0 + 1 + 1 >= 0", "1 x0 + >= 0", "+ 1 x0 >= 0", "1 x0 + + 1 >= 0", "1 + 1 x0 >= 0", "1 + 1 >= 0", "0 + 1 >= 0", "1 x0 + 1 + 1 x1 >= 0", "0 + 1 x0 >= 0",
		"1 x1 + 1 x0 >= 0", "1 x0 + 1 x0 >= 0", "1 x0 + 1 x2 + 1 x1 >= 0", "1 x0 + 1 x1 + 1 x1 = 0",
		"1 x0 >= 0 #", "1 x0 >= 0 # ", "1 x0 >= 0 # 0", "1 x0 >= 0 # -0", "1 x0 >= 0 # 01", "1 x0 >= 0 # +1", "1 x0 >= 0 # a", "1 x0 >= 0 # 1/2", "1 x0 >= 0 #1", "1 x0 >= 0# 1", "1 x0 >= 0  # 1", "1 x0 >= 0 # 1 ", "1 x0 >= 0 # 1 # 1", "1 x0 # 1 >= 0", "# 1", "1 x0 >= 0 # 9223372036854775808", "1 x0 >= 0 # -9223372036854775809",
		"cols 3", "\x00", "\xff\xfe",
	}
}

// notHeads are texts with a first line that is wrong.
func notHeads() []string {
	return []string{
		"", "\n", "cols", "cols\n", "cols \n", "cols 3", "cols  3\n", " cols 3\n", "cols 3 \n", "cols 3\r\n", "cols 03\n", "cols +3\n", "cols -0\n", "cols -1\n", "cols 2049\n", "cols 99999999999999999999\n", "cols x\n", "cols 1/2\n", "Cols 3\n", "col 3\n", "cols3\n", "3\n", "\ncols 3\n", "1 x0 >= 0\n", "cols cols 3\n", "cols 3 0 >= 0\n", "cols 2049\n1 x0 >= 0\nx\n",
	}
}

func checkParseError(t *testing.T, src string, offset int, want api.Errno) {
	t.Helper()
	s, at, e := Parse(src)
	checkError(t, "Parse of "+strconv.Quote(src[:min(len(src), 200)]), s, e, want)
	if at != offset {
		t.Errorf("Parse of %.200q fails at %d, want %d", src, at, offset)
	}
}

func TestText(t *testing.T) {
	for want, s := range written() {
		if got, e := Text(s); got != want || e != api.OK {
			t.Errorf("Text of %v is %q, %d, want %q", s, got, e, want)
		}
	}
}

func TestParse(t *testing.T) {
	for text, want := range written() {
		s, at, e := Parse(text)
		check(t, "Parse of "+strconv.Quote(text), s, e, want)
		if at != 0 {
			t.Errorf("Parse of %q has the offset %d", text, at)
		}
	}
}

func TestParseErrors(t *testing.T) {
	for _, src := range notHeads() {
		checkParseError(t, src, 0, api.ErrSyntax)
	}
	good := "cols 3\n1 x0 + -1/2 x2 + 3 >= 0 # 7\n"
	for _, line := range notRows() {
		checkParseError(t, "cols 3\n"+line+"\n", len("cols 3\n"), api.ErrSyntax)
		checkParseError(t, good+line+"\n", len(good), api.ErrSyntax)
		checkParseError(t, good+line+"\n"+"0 = 0\nx\n", len(good), api.ErrSyntax)
	}
	// The last line, too, ends with a line feed.
	checkParseError(t, good+"0 >= 0", len(good), api.ErrSyntax)
	checkParseError(t, good[:len(good)-1], len("cols 3\n"), api.ErrSyntax)
	checkParseError(t, good+"\n", len(good), api.ErrSyntax)
	// The columns are those of the first line.
	checkParseError(t, "cols 0\n1 x0 >= 0\n", len("cols 0\n"), api.ErrSyntax)
	checkParseError(t, "cols 2\n1 x1 >= 0\n1 x2 >= 0\n", len("cols 2\n1 x1 >= 0\n"), api.ErrSyntax)
}

// TestParseChangedTexts checks that a text with one byte less, more or changed is the text of another system, or of none.
func TestParseChangedTexts(t *testing.T) {
	const bytes = " \n+-/x0123#>="
	accepted := 0
	for text := range written() {
		if len(text) > 150 {
			continue
		}
		for i := range len(text) + 1 {
			changed := []string{text[:i], text[:i] + text[min(i+1, len(text)):]}
			for b := range len(bytes) {
				changed = append(changed, text[:i]+bytes[b:b+1]+text[i:], text[:i]+bytes[b:b+1]+text[min(i+1, len(text)):])
			}
			for _, src := range changed {
				s, at, e := Parse(src)
				if e == api.ErrSyntax {
					checkError(t, "Parse of "+strconv.Quote(src), s, e, api.ErrSyntax)
					if at > 0 && src[at-1] != '\n' {
						t.Fatalf("Parse of %q fails at %d, where no line begins", src, at)
					}
				} else if got, textError := Text(s); e != api.OK || at != 0 || got != src || textError != api.OK {
					t.Fatalf("Parse of %q is %v, %d, %d, whose text is %q, %d", src, s, at, e, got, textError)
				} else {
					accepted++
				}
			}
		}
	}
	if accepted < 100 {
		t.Errorf("only %d changed texts are texts of systems", accepted)
	}
}

func TestParseOfText(t *testing.T) {
	d := newDrawn(8)
	for range 1000 {
		s := d.system(d.Intn(14), d.Intn(6))
		text, e := Text(s)
		if e != api.OK {
			t.Fatalf("Text of %v fails with %d", s, e)
		}
		parsed, at, e := Parse(text)
		check(t, "Parse of "+text, parsed, e, s)
		if at != 0 {
			t.Fatalf("Parse of %q has the offset %d", text, at)
		}
	}
}

// TestLongTexts checks texts of exactly MaxSource bytes, and of one more.
func TestLongTexts(t *testing.T) {
	long := func(bytes int) (api.System, string) {
		line := longest + " >= 0\n"
		text := "cols 1\n" + strings.Repeat(line, (bytes-100)/len(line))
		rest := bytes - len(text) - len(" x0 + 1 >= 0\n")
		number := "1" + strings.Repeat("0", rest-1)
		if rest > api.MaxDigits {
			number = strings.Repeat("9", api.MaxDigits) + "/1" + strings.Repeat("0", rest-api.MaxDigits-2)
		}
		s := many(1, (bytes-100)/len(line), longest+" >= 0")
		s.Rows = append(s.Rows, row(number+" x0 + 1 >= 0"))
		return s, text + number + " x0 + 1 >= 0\n"
	}
	s, want := long(api.MaxSource)
	got, e := Text(s)
	if len(want) != api.MaxSource || got != want || e != api.OK {
		t.Fatalf("a text of %d bytes is one of %d bytes, %d", len(want), len(got), e)
	}
	parsed, _, e := Parse(want)
	check(t, "Parse of a text of MaxSource bytes", parsed, e, s)

	s, want = long(api.MaxSource + 1)
	if Check(s) != api.OK || len(want) != api.MaxSource+1 {
		t.Fatalf("the system with a text of %d bytes is not valid", len(want))
	}
	if got, e := Text(s); got != "" || e != api.ErrLong {
		t.Errorf("a text of %d bytes has the error %d, want ErrLong", len(want), e)
	}
	for _, src := range []string{want, strings.Repeat("x", api.MaxSource+1), "cols 1\n" + strings.Repeat("0 >= 0\n", api.MaxSource)} {
		checkParseError(t, src, 0, api.ErrLong)
	}
	full := many(1, api.MaxRows, longest+" x0 + "+longest+" >= 0")
	if got, e := Text(full); got != "" || e != api.ErrLong {
		t.Errorf("a very long text has the error %d, want ErrLong", e)
	}
}

// TestParseManyRows checks texts with exactly MaxRows rows, and with one more.
func TestParseManyRows(t *testing.T) {
	src := "cols 1\n" + strings.Repeat("1 x0 >= 0\n", api.MaxRows)
	s, at, e := Parse(src)
	check(t, "Parse of MaxRows rows", s, e, many(1, api.MaxRows, "1 x0 >= 0"))
	if at != 0 {
		t.Errorf("Parse of MaxRows rows has the offset %d", at)
	}
	checkParseError(t, src+"0 = 0\n", len(src), api.ErrMany)
	checkParseError(t, src+"0 = 0\n1 >= 0\n0 = 0\n", len(src), api.ErrMany)
	// A line that is wrong comes first, wherever it is.
	checkParseError(t, src+"0 = 0", len(src), api.ErrSyntax)
	checkParseError(t, src+"x\n", len(src), api.ErrSyntax)
	checkParseError(t, src+"0 = 0\n1 >= 0\nx\n", len(src)+len("0 = 0\n1 >= 0\n"), api.ErrSyntax)
	checkParseError(t, "cols 1\nx\n"+src, len("cols 1\n"), api.ErrSyntax)
}

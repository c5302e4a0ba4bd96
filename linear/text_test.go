package linear

import (
	"strconv"
	"strings"
	"testing"

	"cellarer/api"
)

// written are texts and their forms.
func written() map[string]Form {
	return map[string]Form{
		"0":                           zero(),
		"5":                           form("5"),
		"-5":                          form("-5"),
		"-5/3":                        form("-5/3"),
		"1":                           form("1"),
		"x0":                          form("0", term("1", 0)),
		"-x0":                         form("0", term("-1", 0)),
		"2 x0":                        form("0", term("2", 0)),
		"-2 x0":                       form("0", term("-2", 0)),
		"1/2 x7":                      form("0", term("1/2", 7)),
		"-1/2 x0 + 3 x3 + 5":          form("5", term("-1/2", 0), term("3", 3)),
		"-1/2 x0 + 3 x1 + 11":         form("11", term("-1/2", 0), term("3", 1)),
		"x0 + x1":                     form("0", term("1", 0), term("1", 1)),
		"x0 - x1":                     form("0", term("1", 0), term("-1", 1)),
		"-x0 - x1 - 1":                form("-1", term("-1", 0), term("-1", 1)),
		"x0 + 1":                      form("1", term("1", 0)),
		"x0 - 1/2":                    form("-1/2", term("1", 0)),
		"x10 - 11 x100 + x2047 - 7/2": form("-7/2", term("1", 10), term("-11", 100), term("1", last)),
		longest + " x2047":            form("0", term(longest, last)),
		"-1/" + longest + " x1 - " + longest + "/10": form("-"+longest+"/10", term("-1/"+longest, 1)),
	}
}

// notWritten are texts that no form has.
func notWritten() []string {
	return []string{
		"", " ", "-", "+", "+5", "- 5", "--5", "-0", "00", "05", "4/2", "5.0", "5 ", " 5", "5\n",
		"x", "-x", "x-1", "x+1", "x01", "x00", "x 0", "X0", "y0", "x2048", "x99999999999999999999", "x0x1", "x0 x1", "x1/2", "x0\n",
		"0 x0", "1 x0", "-1 x0", "- x0", "+x0", "2x0", "2  x0", "2 x0 ", " 2 x0", "2*x0", "02 x0", "4/2 x0", "-0 x0", "2 3 x0", "2 -x0", "2 - x0 x1",
		"x0 + 0", "x0 - 0", "x0 + 0 x1", "0 + x0", "5 + x0", "5 + 5", "x0 + 5 + 5", "x0 + 5 + x1", "x0 +", "x0 + ", "x0 -", "x0 + +", "+ x0", "x0 + + x1", "x0 + - x1", "x0 + -1", "x0 + -x1", "x0 - -x1", "x0 +5", "x0+ 5", "x0  + 5", "x0 +  5", "x0\t+ 5",
		"x1 + x0", "x0 + x0", "x0 - x0", "x0 + x1 + x1", "x0 + 1 x1", "x0 + 4/2 x1", "x0 + 1/1", "x0 * x1", "x0 = 0", "x0 + x2048", "x0 + x", "x0 5", "x0 x1 + 5", "5 x0 5",
		tooLong, tooLong + " x0", "x0 + " + tooLong, "1/" + tooLong, strings.Repeat("x0 ", 100), strings.Repeat(" ", api.MaxSource),
	}
}

func TestText(t *testing.T) {
	for want, f := range written() {
		if got, e := Text(f); got != want || e != api.OK {
			t.Errorf("Text of %v is %q, %d, want %q", f, got, e, want)
		}
	}
	for _, forms := range badForms() {
		for _, f := range forms {
			if got, e := Text(f); got != "" || e != api.ErrForm {
				t.Errorf("Text of %v is %q, %d, want ErrForm", f, got, e)
			}
		}
	}
}

func TestParse(t *testing.T) {
	for text, want := range written() {
		f, e := Parse(text)
		check(t, "Parse of "+text, f, e, want)
	}
	for _, text := range notWritten() {
		f, e := Parse(text)
		checkError(t, "Parse of "+strconv.Quote(text), f, e, api.ErrSyntax)
	}
}

// TestParseChangedTexts checks that a text with one byte less, more or changed is the text of another form, or of none.
func TestParseChangedTexts(t *testing.T) {
	const bytes = " +-/x0123"
	for text := range written() {
		if len(text) > 100 {
			continue
		}
		for i := range len(text) + 1 {
			changed := []string{text[:i]}
			for b := range len(bytes) {
				changed = append(changed, text[:i]+bytes[b:b+1]+text[i:], text[:i]+bytes[b:b+1]+text[min(i+1, len(text)):])
			}
			changed = append(changed, text[:i]+text[min(i+1, len(text)):])
			for _, s := range changed {
				f, e := Parse(s)
				if e == api.ErrSyntax {
					checkError(t, "Parse of "+strconv.Quote(s), f, e, api.ErrSyntax)
				} else if got, textError := Text(f); e != api.OK || got != s || textError != api.OK {
					t.Fatalf("Parse of %q is %v, %d, whose text is %q, %d", s, f, e, got, textError)
				}
			}
		}
	}
}

func TestParseOfText(t *testing.T) {
	d := newDrawn(5)
	for range 500 {
		f, _ := d.form()
		text, e := Text(f)
		if e != api.OK {
			t.Fatalf("Text of %v fails with %d", f, e)
		}
		parsed, e := Parse(text)
		check(t, "Parse of "+text, parsed, e, f)
	}
}

// TestLongTexts checks texts of exactly MaxSource bytes, and of one more.
func TestLongTexts(t *testing.T) {
	// These terms leave room for a constant, but not for another term.
	f := zero()
	for col := range 159 {
		f.Terms = append(f.Terms, term(longest, col+10))
	}
	short, e := Text(f)
	if e != api.OK {
		t.Fatalf("Text of a form with many terms fails with %d", e)
	}
	rest := api.MaxSource - len(short) - len(" + ")
	if rest < 2 || rest > 2*api.MaxDigits {
		t.Fatalf("the text of %d bytes cannot be made longer by a constant of %d bytes", len(short), rest)
	}
	constant := strings.Repeat("9", rest)
	if rest > api.MaxDigits {
		constant = strings.Repeat("9", api.MaxDigits-1) + "/1" + strings.Repeat("0", rest-api.MaxDigits-1)
	}
	f.Const = constant
	text, e := Text(f)
	if len(text) != api.MaxSource || e != api.OK {
		t.Fatalf("the text has %d bytes, %d", len(text), e)
	}
	parsed, e := Parse(text)
	check(t, "Parse of a text of MaxSource bytes", parsed, e, f)

	f.Const = constant + "0"
	if Check(f) != api.OK {
		t.Fatalf("the form with %q is not valid", f.Const)
	}
	if text, e := Text(f); text != "" || e != api.ErrLong {
		t.Errorf("a text of %d bytes has the error %d, want ErrLong", len(text), e)
	}
	for _, s := range []string{text + "0", text + " ", strings.Repeat("x", api.MaxSource+1), strings.Repeat("9", 1<<20)} {
		parsed, e := Parse(s)
		checkError(t, "Parse of a text that is too long", parsed, e, api.ErrLong)
	}
}

package linear

import (
	"cmp"
	"strconv"
	"strings"

	"cellarer/api"
)

// Text returns the text of a form.
func Text(f Form) (string, api.Errno) {
	if Check(f) != api.OK {
		return "", api.ErrForm
	}
	text := write(f)
	if len(text) > api.MaxSource {
		return "", api.ErrLong
	}
	return text, api.OK
}

// Parse returns the form with a text.
func Parse(s string) (Form, api.Errno) {
	if len(s) > api.MaxSource {
		return Form{}, api.ErrLong
	}
	f := read(s)
	// A text that is not written as it should be yields a form that is not valid, or that has another text.
	if text, e := Text(f); e != api.OK || text != s {
		return Form{}, api.ErrSyntax
	}
	return f, api.OK
}

// write returns the text of a valid form.
func write(f Form) string {
	if len(f.Terms) == 0 {
		return f.Const
	}
	var out strings.Builder
	add := func(number, column string) {
		size, negative := strings.CutPrefix(number, "-")
		out.WriteString(sign(negative, out.Len() == 0))
		switch {
		case column == "":
			out.WriteString(size)
		case size == "1":
			out.WriteString(column)
		default:
			out.WriteString(size + " " + column)
		}
	}
	for _, t := range f.Terms {
		add(t.Coef, "x"+strconv.Itoa(t.Col))
	}
	if f.Const != "0" {
		add(f.Const, "")
	}
	return out.String()
}

// sign returns what stands before the magnitude of a number.
func sign(negative, first bool) string {
	switch {
	case first && negative:
		return "-"
	case first:
		return ""
	case negative:
		return " - "
	}
	return " + "
}

// read returns the form of a text, which need not be right: what it stands for is then any form, valid or not.
func read(s string) Form {
	f := Form{Const: "0"}
	rest, negative := strings.CutPrefix(s, "-")
	size := ""
	number := func(size string) string {
		if negative {
			return "-" + size
		}
		return size
	}
	for word := range strings.SplitSeq(rest, " ") {
		switch {
		case word == "+" || word == "-":
			negative = word == "-"
		case strings.HasPrefix(word, "x"):
			col, _ := strconv.Atoi(word[1:])
			f.Terms = append(f.Terms, api.Term{Col: col, Coef: number(cmp.Or(size, "1"))})
			size = ""
		default:
			size = word
		}
	}
	if size != "" {
		f.Const = number(size)
	}
	return f
}

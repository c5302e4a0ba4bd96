package system

import (
	"strconv"
	"strings"

	"cellarer/api"
)

// Text returns the text of a system.
func Text(s api.System) (string, api.Errno) {
	if Check(s) != api.OK {
		return "", api.ErrForm
	}
	var out strings.Builder
	out.WriteString(headText(s.Cols))
	for _, r := range s.Rows {
		out.WriteString(rowText(r))
		if out.Len() > api.MaxSource {
			return "", api.ErrLong
		}
	}
	return out.String(), api.OK
}

// Parse returns the system with a text, or the offset of what is wrong.
func Parse(src string) (api.System, int, api.Errno) {
	if len(src) > api.MaxSource {
		return api.System{}, 0, api.ErrLong
	}
	head := src[:strings.IndexByte(src, '\n')+1]
	cols, ok := readHead(head)
	if !ok {
		return api.System{}, 0, api.ErrSyntax
	}
	s := api.System{Cols: cols}
	offset, tooMany := len(head), 0
	for line := range strings.Lines(src[offset:]) {
		r, ok := readRow(line, cols)
		if !ok {
			return api.System{}, offset, api.ErrSyntax
		}
		if len(s.Rows) == api.MaxRows {
			tooMany = offset
		}
		s.Rows = append(s.Rows, r)
		offset += len(line)
	}
	if len(s.Rows) > api.MaxRows {
		return api.System{}, tooMany, api.ErrMany
	}
	return s, 0, api.OK
}

// headText returns the line with the number of columns.
func headText(cols int) string {
	return "cols " + strconv.Itoa(cols) + "\n"
}

// rowText returns the line of a row.
func rowText(r api.Row) string {
	var parts []string
	for _, t := range r.Terms {
		parts = append(parts, t.Coef+" x"+strconv.Itoa(t.Col))
	}
	if r.Const != "0" || len(parts) == 0 {
		parts = append(parts, r.Const)
	}
	text := strings.Join(parts, " + ")
	if r.Eq {
		text += " = 0"
	} else {
		text += " >= 0"
	}
	if r.Mark != 0 {
		text += " # " + strconv.Itoa(r.Mark)
	}
	return text + "\n"
}

// readHead returns the number of columns of a line, and whether the line is right.
func readHead(line string) (int, bool) {
	number := strings.TrimSuffix(strings.TrimPrefix(line, "cols "), "\n")
	// A text that is no number becomes one with another text.
	cols, _ := strconv.Atoi(number)
	return cols, cols >= 0 && cols <= api.MaxCols && headText(cols) == line
}

// readRow returns the row of a line, and whether the line is right: what a wrong one becomes is no valid row, or has another text.
func readRow(line string, cols int) (api.Row, bool) {
	condition, mark, _ := strings.Cut(strings.TrimSuffix(line, "\n"), " # ")
	form, eq := strings.CutSuffix(condition, " = 0")
	r := api.Row{Const: "0", Eq: eq}
	r.Mark, _ = strconv.Atoi(mark)
	for part := range strings.SplitSeq(strings.TrimSuffix(form, " >= 0"), " + ") {
		if coef, column, ok := strings.Cut(part, " x"); ok {
			col, _ := strconv.Atoi(column)
			r.Terms = append(r.Terms, api.Term{Col: col, Coef: coef})
		} else {
			r.Const = part
		}
	}
	return r, isRow(r, cols) && rowText(r) == line
}

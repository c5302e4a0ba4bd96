// Package excerpt implements layer 1: lines and columns of offsets, and excerpts of sources.
package excerpt

import (
	"strings"

	"cellarer/api"
)

// LineCol returns the line and the column of an offset.
func LineCol(src string, offset int) (int, int, api.Errno) {
	if offset < 0 || offset > len(src) {
		return 0, 0, api.ErrRange
	}
	return strings.Count(src[:offset], "\n"), offset - lineStart(src, offset), api.OK
}

// Offset returns the offset with a line and a column.
func Offset(src string, line, col int) (int, api.Errno) {
	from, to, ok := lineBounds(src, line)
	if !ok {
		return 0, api.ErrNone
	}
	if col < 0 || col > to-from {
		return 0, api.ErrRange
	}
	return from + col, api.OK
}

// Line returns a line without its line feed.
func Line(src string, line int) (string, api.Errno) {
	from, to, ok := lineBounds(src, line)
	if !ok {
		return "", api.ErrNone
	}
	// A part of src would keep the memory of the whole source in use.
	return strings.Clone(src[from:to]), api.OK
}

// Excerpt returns the line in which a range begins, and below it carets under the part of the range that lies in the line.
func Excerpt(src string, s api.Span) (string, api.Errno) {
	if s.From < 0 || s.From > s.To || s.To > len(src) {
		return "", api.ErrRange
	}
	from, to := lineStart(src, s.From), lineEnd(src, s.From)
	var out strings.Builder
	out.WriteString(src[from:to])
	out.WriteByte('\n')
	// Continuation bytes get no mark, so that the marks stand under whole characters.
	mark := func(from, to int, sign func(byte) byte) int {
		count := 0
		for i := range to - from {
			if b := src[from+i]; !continues(b) {
				out.WriteByte(sign(b))
				count++
			}
		}
		return count
	}
	mark(from, s.From, marginSign)
	if mark(s.From, min(s.To, to), caret) == 0 {
		out.WriteByte('^')
	}
	return out.String(), api.OK
}

// marginSign keeps tabs, so that the carets stand below the range however wide a tab is shown.
func marginSign(b byte) byte {
	if b == '\t' {
		return '\t'
	}
	return ' '
}

func caret(byte) byte {
	return '^'
}

// continues reports whether a byte is a continuation byte of a character.
func continues(b byte) bool {
	return b >= 128 && b <= 191
}

// lineStart returns the offset at which the line of an offset begins.
func lineStart(src string, offset int) int {
	return strings.LastIndexByte(src[:offset], '\n') + 1
}

// lineEnd returns the offset at which the line of an offset ends.
func lineEnd(src string, offset int) int {
	if i := strings.IndexByte(src[offset:], '\n'); i >= 0 {
		return offset + i
	}
	return len(src)
}

// lineBounds returns where a line begins and ends, and whether there is such a line.
func lineBounds(src string, line int) (int, int, bool) {
	if line < 0 {
		return 0, 0, false
	}
	from := 0
	for range line {
		end := lineEnd(src, from)
		if end == len(src) {
			return 0, 0, false
		}
		from = end + 1
	}
	return from, lineEnd(src, from), true
}

package excerpt

import (
	"math"
	"strings"
	"testing"

	"cellarer/api"
)

const example = "ab\ncd\n"

// wrongOffsets are numbers that are no offsets of a source with the given length.
func wrongOffsets(length int) []int {
	return []int{math.MinInt, -2, -1, length + 1, length + 2, math.MaxInt}
}

// sources returns all texts of up to four of the bytes that the layer distinguishes: a letter, a tab, a line feed, the two bytes of é, and those beside the limits of the continuation bytes; and some longer texts.
func sources() []string {
	const bytes = "a\t\n\xc3\xa9\x7f\x80\xbf\xc0"
	all := []string{""}
	for from := 0; len(all[from]) < 4; from++ {
		for i := range len(bytes) {
			all = append(all, all[from]+bytes[i:i+1])
		}
	}
	return append(all, "a\nb\n\nc", "\n\n\n\n\n", "é\té\n\té é", "no line feed", "\xff\xfe\n\xf0\x9f\x98\x80!")
}

// place finds the line and the column of an offset byte by byte.
func place(src string, offset int) (int, int) {
	line, col := 0, 0
	for i := range offset {
		col++
		if src[i] == '\n' {
			line, col = line+1, 0
		}
	}
	return line, col
}

func TestLineCol(t *testing.T) {
	for _, c := range []struct {
		src               string
		offset, line, col int
	}{
		{example, 0, 0, 0}, {example, 2, 0, 2}, {example, 3, 1, 0}, {example, 4, 1, 1}, {example, 5, 1, 2}, {example, 6, 2, 0},
		{"", 0, 0, 0}, {"\n", 0, 0, 0}, {"\n", 1, 1, 0}, {"é\té", 5, 0, 5}, {"a\r\nb", 2, 0, 2},
	} {
		line, col, e := LineCol(c.src, c.offset)
		if line != c.line || col != c.col || e != api.OK {
			t.Errorf("LineCol(%q, %d) = %d, %d, %d, want %d, %d", c.src, c.offset, line, col, e, c.line, c.col)
		}
	}
	for _, src := range sources() {
		for offset := range len(src) + 1 {
			line, col, e := LineCol(src, offset)
			if l, k := place(src, offset); line != l || col != k || e != api.OK {
				t.Fatalf("LineCol(%q, %d) = %d, %d, %d, want %d, %d", src, offset, line, col, e, l, k)
			}
		}
	}
}

func TestLineColOfNoOffset(t *testing.T) {
	for _, src := range []string{"", "\n", example} {
		for _, offset := range wrongOffsets(len(src)) {
			if line, col, e := LineCol(src, offset); line != 0 || col != 0 || e != api.ErrRange {
				t.Errorf("LineCol(%q, %d) = %d, %d, %d, want 0, 0, ErrRange", src, offset, line, col, e)
			}
		}
	}
}

func TestOffset(t *testing.T) {
	if offset, e := Offset(example, 1, 2); offset != 5 || e != api.OK {
		t.Errorf("Offset(%q, 1, 2) = %d, %d, want 5", example, offset, e)
	}
	for _, src := range sources() {
		from := 0
		for line, text := range strings.Split(src, "\n") {
			for col := range len(text) + 1 {
				if offset, e := Offset(src, line, col); offset != from+col || e != api.OK {
					t.Fatalf("Offset(%q, %d, %d) = %d, %d, want %d", src, line, col, offset, e, from+col)
				}
			}
			for _, col := range wrongOffsets(len(text)) {
				if offset, e := Offset(src, line, col); offset != 0 || e != api.ErrRange {
					t.Fatalf("Offset(%q, %d, %d) = %d, %d, want 0, ErrRange", src, line, col, offset, e)
				}
			}
			from += len(text) + 1
		}
	}
}

func TestLine(t *testing.T) {
	for _, src := range sources() {
		for line, text := range strings.Split(src, "\n") {
			if got, e := Line(src, line); got != text || e != api.OK {
				t.Fatalf("Line(%q, %d) = %q, %d, want %q", src, line, got, e, text)
			}
		}
	}
}

func TestNoSuchLine(t *testing.T) {
	for _, src := range []string{"", "a", "\n", example} {
		for _, line := range wrongOffsets(strings.Count(src, "\n")) {
			if text, e := Line(src, line); text != "" || e != api.ErrNone {
				t.Errorf("Line(%q, %d) = %q, %d, want ErrNone", src, line, text, e)
			}
			// ErrNone comes before ErrRange, so the column does not matter.
			for _, col := range []int{math.MinInt, -1, 0, 1, math.MaxInt} {
				if offset, e := Offset(src, line, col); offset != 0 || e != api.ErrNone {
					t.Errorf("Offset(%q, %d, %d) = %d, %d, want 0, ErrNone", src, line, col, offset, e)
				}
			}
		}
	}
}

func TestExcerpt(t *testing.T) {
	for _, c := range []struct {
		src      string
		from, to int
		want     string
	}{
		{example, 3, 5, "cd\n^^"},
		{example, 6, 6, "\n^"},
		{example, 0, 1, "ab\n^"},
		{example, 1, 1, "ab\n ^"},
		{example, 1, 6, "ab\n ^"},
		{example, 2, 3, "ab\n  ^"},
		{example, 2, 6, "ab\n  ^"},
		{"", 0, 0, "\n^"},
		{"\t\ta b\tc", 5, 6, "\t\ta b\tc\n\t\t   ^"},
		{"\t\ta b\tc", 6, 7, "\t\ta b\tc\n\t\t   \t^"},
		{"\t\ta b\tc", 0, 7, "\t\ta b\tc\n^^^^^^^"},
		{"éa", 0, 3, "éa\n^^"},
		{"éa", 2, 3, "éa\n ^"},
		{"éa", 1, 2, "éa\n ^"},
		{"\x80\xbf\x7f\xc0", 0, 4, "\x80\xbf\x7f\xc0\n^^"},
		{"\x80\xbf\x7f\xc0x", 4, 5, "\x80\xbf\x7f\xc0x\n  ^"},
		{"a\r\nb", 0, 4, "a\r\n^^"},
	} {
		if got, e := Excerpt(c.src, api.Span{From: c.from, To: c.to}); got != c.want || e != api.OK {
			t.Errorf("Excerpt(%q, %d to %d) = %q, %d, want %q", c.src, c.from, c.to, got, e, c.want)
		}
	}
}

// plainExcerpt builds an excerpt from whole lines and byte counts.
func plainExcerpt(src string, from, to int) string {
	line, col := place(src, from)
	text := strings.Split(src, "\n")[line]
	margin, carets := "", ""
	for i := range len(text) {
		switch b := text[i]; {
		case b >= 0x80 && b < 0xc0:
		case i >= col && i < col+to-from:
			carets += "^"
		case i < col && b == '\t':
			margin += "\t"
		case i < col:
			margin += " "
		}
	}
	if carets == "" {
		carets = "^"
	}
	return text + "\n" + margin + carets
}

func TestExcerptOfEveryRange(t *testing.T) {
	for _, src := range sources() {
		for from := range len(src) + 1 {
			for to := from; to <= len(src); to++ {
				want := plainExcerpt(src, from, to)
				if got, e := Excerpt(src, api.Span{From: from, To: to}); got != want || e != api.OK {
					t.Fatalf("Excerpt(%q, %d to %d) = %q, %d, want %q", src, from, to, got, e, want)
				}
			}
		}
	}
}

func TestExcerptOfNoRange(t *testing.T) {
	for _, s := range []api.Span{
		{From: -1, To: 2}, {From: -1, To: -1}, {From: 3, To: 2}, {From: 0, To: 7}, {From: 7, To: 7}, {From: 6, To: 5},
		{From: math.MinInt, To: math.MaxInt}, {From: math.MaxInt, To: math.MaxInt}, {From: 0, To: math.MaxInt}, {From: 0, To: math.MinInt},
	} {
		if text, e := Excerpt(example, s); text != "" || e != api.ErrRange {
			t.Errorf("Excerpt(%q, %v) = %q, %d, want ErrRange", example, s, text, e)
		}
	}
}

func TestOffsetInvertsLineCol(t *testing.T) {
	for _, src := range sources() {
		for offset := range len(src) + 1 {
			line, col, _ := LineCol(src, offset)
			if got, e := Offset(src, line, col); got != offset || e != api.OK {
				t.Fatalf("in %q, the offset of line %d, column %d is %d, %d, want %d", src, line, col, got, e, offset)
			}
		}
	}
}

func TestLinesAreTheSource(t *testing.T) {
	for _, src := range sources() {
		var lines []string
		for {
			line, e := Line(src, len(lines))
			if e != api.OK {
				break
			}
			lines = append(lines, line)
		}
		if got := strings.Join(lines, "\n"); len(lines) == 0 || got != src {
			t.Fatalf("the lines of %q are %q", src, lines)
		}
	}
}

func TestExcerptDependsOnOneLine(t *testing.T) {
	const before, after = "\té before\n\n", "\n after\n\t"
	for _, line := range sources() {
		if strings.Contains(line, "\n") {
			continue
		}
		for from := range len(line) + 1 {
			for to := from; to <= len(line); to++ {
				alone, _ := Excerpt(line, api.Span{From: from, To: to})
				among, e := Excerpt(before+line+after, api.Span{From: len(before) + from, To: len(before) + to})
				if alone != among || e != api.OK {
					t.Fatalf("the excerpt %d to %d of %q is %q alone, and %q among other lines", from, to, line, alone, among)
				}
			}
		}
	}
}

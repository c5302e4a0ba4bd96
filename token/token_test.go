package token

import (
	"slices"
	"strings"
	"testing"

	"cellarer/api"
)

func TestExamples(t *testing.T) {
	checkScan(t, "f -1 x- 2", "l:f s:- n:1 l:x s:- n:2 e:")
	checkScan(t, "(-1)+-2", "s:( n:-1 s:) s:+ n:-2 e:")
	checkScan(t, "a--b", "l:a e:")
	if got := scanned("a--b").comments; !slices.Equal(got, []api.Span{{From: 1, To: 4}}) {
		t.Errorf("the comments of a--b are %v", got)
	}
	checkScan(t, "a->b", "l:a s:-> l:b e:")
	checkScanError(t, "1x", 1, api.ErrSyntax)
	checkScanError(t, "_a", 0, api.ErrSyntax)
	checkScanError(t, "9223372036854775808", 0, api.ErrRange)
	checkScan(t, "-9223372036854775808", "n:-9223372036854775808 e:")
}

func TestTokens(t *testing.T) {
	for src, want := range map[string]string{
		"":                         "e:",
		" \t\r\n":                  "e:",
		"lets let Let LET":         "l:lets w:let u:Let u:LET e:",
		"aZ_09z Az_09Z a_ ":        "l:aZ_09z u:Az_09Z l:a_ e:",
		"modul modulee copy1 end_": "l:modul l:modulee l:copy1 l:end_ e:",
		"f(x:Int)":                 "l:f s:( l:x s:: u:Int s:) e:",
		"===<===<<=":               "s:== s:= s:<= s:== s:< s:<= e:",
		"_ (_)_,_|_->_":            "s:_ s:( s:_ s:) s:_ s:, s:_ s:| s:_ s:-> s:_ e:",
		"a_-1":                     "l:a_ s:- n:1 e:",
		"-":                        "s:- e:",
		"a-":                       "l:a s:- e:",
		"->-1":                     "s:-> n:-1 e:",
		"-->-1":                    "e:",
		"<-1":                      "s:< n:-1 e:",
		"a-->b\n->c":               "l:a s:-> l:c e:",
		"1->2":                     "n:1 s:-> n:2 e:",
		"-1-1":                     "n:-1 s:- n:1 e:",
		"- -1":                     "s:- n:-1 e:",
		"- - 1":                    "s:- s:- n:1 e:",
		"1*-1/-1%-1+-1":            "n:1 s:* n:-1 s:/ n:-1 s:% n:-1 s:+ n:-1 e:",
		"a1 1":                     "l:a1 n:1 e:",
		"1 a":                      "n:1 l:a e:",
		"1(a":                      "n:1 s:( l:a e:",
		"00 -00 000000001":         "n:00 s:- n:00 n:000000001 e:",
		"let x=-0 in x":            "w:let l:x s:= n:-0 w:in l:x e:",
	} {
		checkScan(t, src, want)
	}
}

func TestRanges(t *testing.T) {
	want := result{tokens: []Token{
		{Lower, "ab", api.Span{From: 1, To: 3}}, {Sign, "->", api.Span{From: 3, To: 5}}, {Number, "-07", api.Span{From: 6, To: 9}},
		{Word, "end", api.Span{From: 16, To: 19}}, {Upper, "B", api.Span{From: 21, To: 22}}, {End, "", api.Span{From: 26, To: 26}},
	}, comments: []api.Span{{From: 9, To: 15}, {From: 24, To: 26}}}
	if got := scanned(" ab-> -07-- x-\r\nend\n\nB \n--"); !got.equal(want) {
		t.Errorf("the result is %v, want %v", got, want)
	}
	// The end is that of the source, not of its last token.
	for src, at := range map[string]int{"": 0, "a": 1, "a \n": 3, "a--b": 4, "\n--\n": 4} {
		tokens := scanned(src).tokens
		if last := tokens[len(tokens)-1]; last != (Token{End, "", api.Span{From: at, To: at}}) {
			t.Errorf("the last token of %q is %v, want the End at %d", src, last, at)
		}
	}
}

// TestComments has comments at the end of sources, and directly behind each kind of token.
func TestComments(t *testing.T) {
	for _, end := range []string{"", "-", " x", "-- _a \" 1x 9223372036854775808", " \t\r"} {
		comment := "--" + end
		for _, before := range append(append([]string{"", " ", "\n", "x", "X", "12", "-1", "a b"}, keywords...), signs...) {
			from := len(before)
			if before == "-" {
				from = 0
			}
			tokens := scanned(before[:from]).tokens
			for _, after := range []string{"", "\n", "\nx", "\n\n--"} {
				src := before + comment + after
				got := scanned(src)
				if got.e != api.OK || len(got.comments) == 0 || got.comments[0] != (api.Span{From: from, To: len(before + comment)}) {
					t.Fatalf("Scan(%q) returns %v, want a comment at %d", src, got, from)
				}
				if n := len(tokens) - 1; !slices.Equal(got.tokens[:n], tokens[:n]) || len(got.tokens)-n != 1+strings.Count(after, "x") {
					t.Fatalf("Scan(%q) returns %v, want the tokens %v and those of %q", src, got, tokens[:n], after)
				}
			}
		}
	}
}

// TestDashes has a - with a digit behind each token, and as the first token.
func TestDashes(t *testing.T) {
	checkScan(t, "-1", "n:-1 e:")
	checkScan(t, " \n-1", "n:-1 e:")
	checkScan(t, "--\n-1", "n:-1 e:")
	for _, gap := range []string{" ", "\n", "\t --\n", "\r\n-- -\n "} {
		for _, word := range keywords {
			checkScan(t, word+gap+"-1", "w:"+word+" n:-1 e:")
		}
		for _, sign := range strings.Fields("< <= == + - * / % ( , | -> =") {
			checkScan(t, sign+gap+"-1", "s:"+sign+" n:-1 e:")
			checkScan(t, "x"+gap+sign+gap+"-1", "l:x s:"+sign+" n:-1 e:")
		}
		for _, sign := range strings.Fields(") : _") {
			checkScan(t, sign+gap+"-1", "s:"+sign+" s:- n:1 e:")
		}
		checkScan(t, "x"+gap+"-1", "l:x s:- n:1 e:")
		checkScan(t, "X"+gap+"-1", "u:X s:- n:1 e:")
		checkScan(t, "1"+gap+"-1", "n:1 s:- n:1 e:")
		checkScan(t, "-1"+gap+"-1", "n:-1 s:- n:1 e:")
		checkScan(t, "+"+gap+"- 1", "s:+ s:- n:1 e:")
		checkScan(t, "+"+gap+"-x", "s:+ s:- l:x e:")
		checkScan(t, "+"+gap+"->1", "s:+ s:-> n:1 e:")
	}
	for _, src := range []string{"x-1", "X-1", "1-1", "let-1", "end-1", "(-1", ")-1", "|-1", ":-1", "==-1", "->-1", "_-1", "x--1", "---1", "-1-1", "x->1", "x- ->1"} {
		if got, want := scanned(src), plainScan(src); !got.equal(want) || got.e != api.OK {
			t.Errorf("Scan(%q) returns %v, want %v", src, got, want)
		}
	}
}

func TestNumbers(t *testing.T) {
	zeros := strings.Repeat("0", 500)
	for _, n := range []string{"0", "1", "10", "9223372036854775806", "9223372036854775807"} {
		for _, zeros := range []string{"", "0", "000", zeros, strings.Repeat("0", api.MaxSource-len(n)-3)} {
			checkScan(t, zeros+n, "n:"+zeros+n+" e:")
			checkScan(t, "-"+zeros+n, "n:-"+zeros+n+" e:")
			checkScan(t, "x-"+zeros+n, "l:x s:- n:"+zeros+n+" e:")
		}
	}
	least := "9223372036854775808"
	for _, n := range []string{least, zeros + least, "9223372036854775810", "10000000000000000000", "18446744073709551616", "18446744073709551617", zeros + "36893488147419103233", strings.Repeat("1", 300)} {
		checkScanError(t, n, 0, api.ErrRange)
		checkScanError(t, "x "+n, 2, api.ErrRange)
		checkScanError(t, "x-"+n, 2, api.ErrRange)
		checkScanError(t, "1 --\n"+n+"x", 5, api.ErrRange)
	}
	checkScan(t, "-"+least, "n:-"+least+" e:")
	checkScan(t, "-"+zeros+least, "n:-"+zeros+least+" e:")
	for _, n := range []string{"-9223372036854775809", "-" + zeros + "9223372036854775809", "-9223372036854775818", "-18446744073709551616"} {
		checkScanError(t, n, 0, api.ErrRange)
		checkScanError(t, "("+n+"x", 1, api.ErrRange)
	}
}

func TestKeyword(t *testing.T) {
	for _, word := range keywords {
		if !Keyword(word) {
			t.Errorf("%s is not a keyword", word)
		}
		for _, other := range []string{word[:len(word)-1], word[1:], word + "s", word + "_", "_" + word, word + " ", " " + word, strings.ToUpper(word), strings.ToUpper(word[:1]) + word[1:], word + word, word + "\x00"} {
			if Keyword(other) {
				t.Errorf("%q is a keyword", other)
			}
		}
	}
	for _, other := range []string{"", " ", "_", "-", "f", "x", "type", "fn", "case", "of", "Int", "where", "copy let", "i", "borrow", "\xff"} {
		if Keyword(other) {
			t.Errorf("%q is a keyword", other)
		}
	}
}

// TestShortSources compares all short sources with a plain scanner.
func TestShortSources(t *testing.T) {
	for _, c := range []struct {
		letters string
		length  int
	}{{"aZ0_-><=(:)|+ \n!", 4}, {"a1-> \n_", 6}} {
		sources := []string{""}
		for from := 0; len(sources[from]) < c.length; from++ {
			for i := range len(c.letters) {
				sources = append(sources, sources[from]+c.letters[i:i+1])
			}
		}
		for _, src := range sources {
			if got, want := scanned(src), plainScan(src); !got.equal(want) {
				t.Fatalf("Scan(%q) returns %v, want %v", src, got, want)
			}
		}
	}
}

// TestDrawnTexts compares sources that are seldom right with a plain scanner.
func TestDrawnTexts(t *testing.T) {
	d := newDrawn(1)
	errors := map[api.Errno]int{}
	for range 30000 {
		src := ""
		for range d.Intn(10) {
			src += d.word() + d.gap()
			if d.Intn(40) == 0 {
				src += d.of("?", "__", "1x", "9223372036854775808", strings.Repeat("X", api.MaxName+1), "\x7f", ">", "\"", "_9", "9_")
			}
		}
		got, want := scanned(src), plainScan(src)
		if !got.equal(want) {
			t.Fatalf("Scan(%q) returns %v, want %v", src, got, want)
		}
		errors[got.e]++
	}
	for _, e := range []api.Errno{api.OK, api.ErrText, api.ErrSyntax, api.ErrLong, api.ErrRange} {
		if errors[e] < 100 {
			t.Errorf("only %d sources have the error %d", errors[e], e)
		}
	}
}

package token

import (
	"slices"
	"strings"
	"testing"

	"cellarer/api"
)

func TestJoin(t *testing.T) {
	for words, want := range map[string]string{
		"":                                 "",
		"e:":                               "",
		"l:f":                              "f",
		"e: e: l:f e: u:X e:":              "f X",
		"l:f s:( n:-1 s:) s:+ n:-007 e:":   "f ( -1 ) + -007",
		"n:-1 s:- n:1 w:let n:-1":          "-1 - 1 let -1",
		"s:- s:- s:-> s:_ s:_ s:= s:= s::": "- - -> _ _ = = :",
		"s:< s:= s:== s:<= s:| s:,":        "< = == <= | ,",
	} {
		checkJoin(t, listed(words), want, api.OK)
	}
	// Ends do not count, whatever their Text is, and ranges neither.
	span := api.Span{From: -5, To: 1 << 40}
	checkJoin(t, []Token{{End, "?", span}, {Lower, "f", span}, {End, strings.Repeat("x", api.MaxSource+1), span}, {Number, "1", span}}, "f 1", api.OK)
}

func TestJoinOfNoTokens(t *testing.T) {
	for _, words := range []string{
		// Not the kind of the text.
		"u:f", "l:F", "l:let", "w:f", "n:f", "s:f", "l:1", "n:+", "l:+", "?:f", "l:_", "s:->>", "s:- s:>", "w:Let", "n:--1", "n:+1", "n:1.5", "s:!", "s:===", "n:", "l:", "s:", "w:", "u:", "?:",
		// Not the same tokens when they are read again.
		"l:f n:-1", "u:X n:-1", "n:1 n:-1", "s:) n:-1", "s:: n:-1", "s:_ n:-1", "l:f e: n:-1", "n:-1 n:-1", "l:x l:--", "s:--", "s:-- l:x", "l:--x", "l:a--b", "l:a,b", "s:(( ", "s:()", "n:1x", "n:9223372036854775808", "l:f l:", "l: l:f", "l:f e: n:", "s:- s:-1",
	} {
		checkJoin(t, listed(words), "", api.ErrForm)
		checkJoin(t, append(listed("l:f s:("), listed(words)...), "", api.ErrForm)
		checkJoin(t, append(listed(words), listed("e: l:f")...), "", api.ErrForm)
	}
	for _, text := range []string{" f", "f ", "f\n", "f g", "f\x00", "\x80", "é", "f--", "--\n", "\n", " ", strings.Repeat("f", api.MaxName+1)} {
		for kind := range End {
			checkJoin(t, []Token{{Kind: kind, Text: text}}, "", api.ErrForm)
		}
	}
	// The texts of the list are those of two tokens, but not one after the other.
	checkJoin(t, []Token{{Kind: Lower, Text: "f g"}, {Kind: Lower, Text: ""}}, "", api.ErrForm)
	checkJoin(t, []Token{{Kind: Lower, Text: "f"}, {Kind: Lower, Text: "g --"}, {Kind: Lower, Text: "h"}}, "", api.ErrForm)
	for _, kind := range []int{-1, 0, 7, 1 << 40, -1 << 40} {
		checkJoin(t, []Token{{Kind: kind, Text: "f"}}, "", api.ErrForm)
	}
}

func TestLongestJoin(t *testing.T) {
	// Names and the spaces between them take MaxName + 1 bytes each, and the last one does not.
	const count = (api.MaxSource + 1) / (api.MaxName + 1)
	l := slices.Repeat([]Token{{Kind: Lower, Text: strings.Repeat("n", api.MaxName)}}, count)
	rest := api.MaxSource - (count*(api.MaxName+1) - 1)
	l = append(l, Token{Kind: Number, Text: strings.Repeat("0", rest-1)}, Token{Kind: End})
	text, e := Join(l)
	if len(text) != api.MaxSource || e != api.OK {
		t.Fatalf("Join returns %d bytes and the error %d, want %d bytes", len(text), e, api.MaxSource)
	}
	l[count].Text += "0"
	checkJoin(t, l, "", api.ErrLong)
	// ErrLong precedes ErrForm, also where what is wrong comes first.
	l[0].Kind = Upper
	checkJoin(t, l, "", api.ErrLong)
	l[count].Text = l[count].Text[1:]
	checkJoin(t, l, "", api.ErrForm)
	for _, c := range []struct {
		count int
		text  string
		e     api.Errno
	}{
		{1, strings.Repeat("?", api.MaxSource), api.ErrForm}, {1, strings.Repeat("?", api.MaxSource+1), api.ErrLong},
		{api.MaxSource + 1, "", api.ErrForm}, {api.MaxSource + 2, "", api.ErrLong},
		{api.MaxSource / 2, "(", api.OK}, {api.MaxSource/2 + 1, "(", api.ErrLong}, {api.MaxSource, "(", api.ErrLong},
	} {
		l := slices.Repeat([]Token{{Kind: Sign, Text: c.text}}, c.count)
		if text, e := Join(l); e != c.e || (e == api.OK) == (text == "") {
			t.Errorf("Join of %d texts %s returns %d bytes and the error %d, want %d", c.count, brief(c.text), len(text), e, c.e)
		}
	}
	// Ends take no space.
	checkJoin(t, slices.Repeat([]Token{{Kind: End}}, 2*api.MaxSource), "", api.OK)
	checkJoin(t, append(slices.Repeat([]Token{{Kind: End, Text: "x"}}, 2*api.MaxSource), Token{Kind: Lower, Text: "x"}), "x", api.OK)
}

// TestConsequences checks that only white space is between tokens and comments, that tokens can be joined and are read again, and that more white space and comments change only ranges.
func TestConsequences(t *testing.T) {
	d := newDrawn(2)
	for range 4000 {
		src := d.source()
		r := scanned(src)
		checkGaps(t, src, r)
		text, e := Join(r.tokens)
		if e != api.OK || show(scanned(text).tokens) != show(r.tokens) {
			t.Fatalf("the tokens of %q are joined to %q with the error %d", src, text, e)
		}
		var texts []string
		for _, token := range r.tokens[:len(r.tokens)-1] {
			texts = append(texts, token.Text)
		}
		if want := strings.Join(texts, " "); text != want {
			t.Fatalf("the tokens of %q are joined to %q, want %q", src, text, want)
		}
		more, from := "", 0
		for _, token := range r.tokens {
			more += src[from:token.At.From] + d.gap() + src[token.At.From:token.At.To]
			from = token.At.To
		}
		if show(scanned(more).tokens) != show(r.tokens) {
			t.Fatalf("the tokens of %q are not those of %q", more, src)
		}
	}
}

// checkGaps checks the ranges of tokens and comments, and what is between them.
func checkGaps(t *testing.T, src string, r result) {
	t.Helper()
	covered := []byte(src)
	last := 0
	for _, token := range r.tokens {
		if token.At.From < last || src[token.At.From:token.At.To] != token.Text {
			t.Fatalf("the token %v of %q has a wrong range", token, src)
		}
		last = token.At.To
		clear(covered[token.At.From:token.At.To])
	}
	last = 0
	for _, comment := range r.comments {
		if comment.From < last || !strings.HasPrefix(src[comment.From:comment.To], "--") {
			t.Fatalf("the comment %v of %q has a wrong range", comment, src)
		}
		last = comment.To
		clear(covered[comment.From:comment.To])
	}
	if left := strings.Trim(string(covered), " \t\r\n\x00"); left != "" {
		t.Fatalf("%q is between the tokens and comments of %q", left, src)
	}
}

func TestArgumentsOfJoin(t *testing.T) {
	l := slices.Grow(listed("l:f e: n:1"), 5)
	spare := l[:cap(l)]
	before := slices.Clone(spare)
	checkJoin(t, l, "f 1", api.OK)
	checkJoin(t, l[:1], "f", api.OK)
	if !slices.Equal(spare, before) {
		t.Errorf("Join changed its argument to %v", spare)
	}
	tokens, comments, _, _ := Scan("f --\n g --")
	tokens[0].Text, comments[0].To = "x", 99
	checkScan(t, "f --\n g --", "l:f l:g e:")
}

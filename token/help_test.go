package token

import (
	"fmt"
	"math/big"
	"math/rand"
	"regexp"
	"slices"
	"strings"
	"testing"

	"cellarer/api"
)

// keywords are all keywords.
var keywords = strings.Fields("module import data fun read let in if then else match view with end copy")

// signs are all punctuation.
var signs = strings.Fields("( ) , | = == : -> < <= + - * / % _")

// kindLetters has the letter of each kind in what show returns.
const kindLetters = "?lunswe"

// show returns tokens as words: the letter of the kind, a colon and the Text.
func show(tokens []Token) string {
	var words []string
	for _, t := range tokens {
		words = append(words, kindLetters[t.Kind:t.Kind+1]+":"+t.Text)
	}
	return strings.Join(words, " ")
}

// listed returns the tokens, without ranges, that show writes.
func listed(words string) []Token {
	var tokens []Token
	for word := range strings.FieldsSeq(words) {
		tokens = append(tokens, Token{Kind: strings.Index(kindLetters, word[:1]), Text: word[2:]})
	}
	return tokens
}

// result is all that Scan returns.
type result struct {
	tokens   []Token
	comments []api.Span
	at       int
	e        api.Errno
}

func scanned(src string) result {
	var r result
	r.tokens, r.comments, r.at, r.e = Scan(src)
	return r
}

func (r result) equal(q result) bool {
	return slices.Equal(r.tokens, q.tokens) && slices.Equal(r.comments, q.comments) && r.at == q.at && r.e == q.e
}

// brief returns a value for a message, for which it may be too long.
func brief(v any) string {
	text := fmt.Sprintf("%q", v)
	return text[:min(len(text), 300)]
}

// checkScan checks that a source has some tokens, and the right ranges.
func checkScan(t *testing.T, src, want string) {
	t.Helper()
	got := scanned(src)
	if show(got.tokens) != want || got.at != 0 || got.e != api.OK {
		t.Fatalf("Scan(%s) returns %s, %d, %d, want %s", brief(src), brief(show(got.tokens)), got.at, got.e, brief(want))
	}
	if wanted := plainScan(src); !got.equal(wanted) {
		t.Fatalf("Scan(%s) returns %s, want %s", brief(src), brief(got), brief(wanted))
	}
}

// checkScanError checks that a source has an error, and no other result.
func checkScanError(t *testing.T, src string, at int, want api.Errno) {
	t.Helper()
	if got := scanned(src); !got.equal(result{at: at, e: want}) {
		t.Fatalf("Scan(%s) returns %s, want the offset %d and the error %d", brief(src), brief(got), at, want)
	}
}

func checkJoin(t *testing.T, l []Token, want string, wantError api.Errno) {
	t.Helper()
	if got, e := Join(l); got != want || e != wantError {
		t.Fatalf("Join(%s) is %s, %d, want %s, %d", brief(l), brief(got), e, brief(want), wantError)
	}
}

// The texts with which a source that is divided plainly can go on.
var (
	spacePart  = regexp.MustCompile(`^[ \t\r\n]+`)
	dashPart   = regexp.MustCompile(`^--[^\n]*`)
	wordPart   = regexp.MustCompile(`^[A-Za-z][A-Za-z0-9_]*`)
	numberPart = regexp.MustCompile(`^[0-9]+`)
	signedPart = regexp.MustCompile(`^-[0-9]+`)
	signPart   = regexp.MustCompile(`^(->|<=|==|[(),|=:<+*/%-])`)
	blankPart  = regexp.MustCompile(`^_([^A-Za-z0-9_]|$)`)
	// What may precede a number with a sign, as show writes it.
	beforeSign = regexp.MustCompile(`^(|w:.*|s:(<|<=|==|[+*/%(,|=-]|->))$`)
	forbidden  = regexp.MustCompile(`[^ -~\t\r\n]`)
)

// plainScan divides a source as the chapter says it.
func plainScan(src string) result {
	if len(src) > api.MaxSource {
		return result{e: api.ErrLong}
	}
	if at := forbidden.FindStringIndex(src); at != nil {
		return result{at: at[0], e: api.ErrText}
	}
	var r result
	for at := 0; at < len(src); {
		rest, before := src[at:], Token{}
		if len(r.tokens) > 0 {
			before = r.tokens[len(r.tokens)-1]
		}
		kind, text, e := plainToken(rest, before)
		if e == api.OK && before.Kind == Number && before.At.To == at && (kind == Lower || kind == Upper || kind == Word || text == "_") {
			e = api.ErrSyntax
		}
		to := at + len(text)
		switch {
		case e != api.OK:
			return result{at: at, e: e}
		case strings.HasPrefix(text, "--"):
			r.comments = append(r.comments, api.Span{From: at, To: to})
		case kind > 0:
			r.tokens = append(r.tokens, Token{kind, text, api.Span{From: at, To: to}})
		}
		at = to
	}
	r.tokens = append(r.tokens, Token{End, "", api.Span{From: len(src), To: len(src)}})
	return r
}

// plainToken returns the kind and the text of the token with which a text begins; white space and comments have no kind.
func plainToken(rest string, before Token) (int, string, api.Errno) {
	if text := spacePart.FindString(rest) + dashPart.FindString(rest); text != "" {
		return 0, text, api.OK
	}
	if text := wordPart.FindString(rest); text != "" {
		switch {
		case len(text) > api.MaxName:
			return 0, "", api.ErrLong
		case slices.Contains(keywords, text):
			return Word, text, api.OK
		case 'A' <= text[0] && text[0] <= 'Z':
			return Upper, text, api.OK
		}
		return Lower, text, api.OK
	}
	text := numberPart.FindString(rest)
	if before.Kind == 0 || beforeSign.MatchString(show([]Token{before})) {
		text += signedPart.FindString(rest)
	}
	if text != "" {
		if n, _ := new(big.Int).SetString(text, 10); !n.IsInt64() {
			return 0, "", api.ErrRange
		}
		return Number, text, api.OK
	}
	if text := signPart.FindString(rest); text != "" {
		return Sign, text, api.OK
	}
	if blankPart.MatchString(rest) {
		return Sign, "_", api.OK
	}
	return 0, "", api.ErrSyntax
}

// drawn makes sources.
type drawn struct{ *rand.Rand }

func newDrawn(seed int64) drawn {
	return drawn{rand.New(rand.NewSource(seed))}
}

func (d drawn) of(texts ...string) string {
	return texts[d.Intn(len(texts))]
}

// word returns the text of a token, though not always of a single one.
func (d drawn) word() string {
	switch d.Intn(5) {
	case 0:
		return d.of(keywords...)
	case 1:
		return d.of("a", "x1", "letx", "z_Z", "A", "Nil", "Let", "B_9", strings.Repeat("n", api.MaxName))
	case 2:
		return d.of("0", "1", "007", "-1", "-0", "9223372036854775807", "-9223372036854775808", "42")
	}
	return d.of(signs...)
}

// gap returns white space and comments, perhaps none, so that what follows is not in a comment.
func (d drawn) gap() string {
	out := ""
	for range d.Intn(3) {
		out += d.of(" ", "\t", "\r\n", "  \n", " --\n", " -- let x = 1\r\n", " ---(\n", "\n")
	}
	return out
}

// source returns a source that Scan accepts.
func (d drawn) source() string {
	for {
		src := d.gap()
		for range d.Intn(12) {
			src += d.word() + d.gap()
		}
		src += d.of("", "", "-- the end", "--")
		if scanned(src).e == api.OK {
			return src
		}
	}
}

package token

import (
	"strconv"
	"strings"

	"cellarer/api"
)

const whiteSpace = " \t\r\n"

// scanner divides a source, whose bytes are all allowed, from left to right.
type scanner struct {
	src      string
	inNames  [256]bool
	tokens   []Token
	comments []api.Span
}

// scan adds all tokens and comments, or returns the offset of what is wrong.
func (s *scanner) scan() (int, api.Errno) {
	parts := [...]func(at int) (int, api.Errno){s.skipSpace, s.addComment, s.addWord, s.addNumber, s.addSign}
	at := 0
source:
	for at < len(s.src) {
		for _, part := range parts {
			end, e := part(at)
			if e != api.OK {
				return at, e
			}
			if end > at {
				at = end
				continue source
			}
		}
		return at, api.ErrSyntax
	}
	s.add(End, at, at)
	return 0, api.OK
}

// skipSpace returns the end of the white space at an offset. Like the functions that add something, it returns the offset itself if there is none.
func (s *scanner) skipSpace(at int) (int, api.Errno) {
	return s.endOf(at, isSpace), api.OK
}

// addComment adds a comment.
func (s *scanner) addComment(at int) (int, api.Errno) {
	if !strings.HasPrefix(s.src[at:], "--") {
		return at, api.OK
	}
	end := s.endOf(at, func(b byte) bool { return b != '\n' })
	s.comments = append(s.comments, api.Span{From: at, To: end})
	return end, api.OK
}

// addWord adds a name, a Name, a keyword or a _.
func (s *scanner) addWord(at int) (int, api.Errno) {
	if isDigit(s.src[at]) {
		return at, api.OK
	}
	end := s.endOf(at, func(b byte) bool { return s.inNames[b] })
	switch {
	case end == at:
		return at, api.OK
	case s.src[at] == '_' && end > at+1:
		return at, api.ErrSyntax
	case end-at > api.MaxName:
		return at, api.ErrLong
	case s.followsNumber(at):
		return at, api.ErrSyntax
	}
	return s.add(wordKind(s.src[at:end]), at, end), api.OK
}

// addNumber adds a number.
func (s *scanner) addNumber(at int) (int, api.Errno) {
	digits := at
	if s.src[at] == '-' && s.mayHaveSign() {
		digits++
	}
	end := s.endOf(digits, isDigit)
	if end == digits {
		return at, api.OK
	}
	if _, err := strconv.ParseInt(s.src[at:end], 10, 64); err != nil {
		return at, api.ErrRange
	}
	return s.add(Number, at, end), api.OK
}

// addSign adds punctuation other than a _.
func (s *scanner) addSign(at int) (int, api.Errno) {
	// The longer ones precede those with which they begin.
	for _, sign := range [...]string{"->", "<=", "==", "(", ")", ",", "|", "=", ":", "<", "+", "-", "*", "/", "%"} {
		if strings.HasPrefix(s.src[at:], sign) {
			return s.add(Sign, at, at+len(sign)), api.OK
		}
	}
	return at, api.OK
}

// add adds the token with a range, and returns where it ends.
func (s *scanner) add(kind, from, to int) int {
	// A part of src would keep the memory of the whole source in use.
	s.tokens = append(s.tokens, Token{Kind: kind, Text: strings.Clone(s.src[from:to]), At: api.Span{From: from, To: to}})
	return to
}

// endOf returns the first offset from at on whose byte is not one of those that belong together.
func (s *scanner) endOf(at int, belongs func(byte) bool) int {
	for at < len(s.src) && belongs(s.src[at]) {
		at++
	}
	return at
}

// last returns the last token, or the zero Token.
func (s *scanner) last() Token {
	if len(s.tokens) == 0 {
		return Token{}
	}
	return s.tokens[len(s.tokens)-1]
}

// followsNumber reports whether the last token is a number that ends at an offset.
func (s *scanner) followsNumber(at int) bool {
	last := s.last()
	return last.Kind == Number && last.At.To == at
}

// mayHaveSign reports whether a - that a digit follows belongs to a number. It does not behind what may end an operand, nor behind a : or a _.
func (s *scanner) mayHaveSign() bool {
	switch last := s.last(); last.Kind {
	case Lower, Upper, Number:
		return false
	case Sign:
		return last.Text != ")" && last.Text != ":" && last.Text != "_"
	}
	return true
}

// wordKind returns the kind of a token that consists of bytes of names and does not begin with a digit.
func wordKind(text string) int {
	switch {
	case text == "_":
		return Sign
	case Keyword(text):
		return Word
	case text[0] <= 'Z':
		return Upper
	}
	return Lower
}

// nameBytes tells of each byte whether names may contain it.
func nameBytes() [256]bool {
	var in [256]bool
	for i := range in {
		b := byte(i)
		in[i] = 'a' <= b && b <= 'z' || 'A' <= b && b <= 'Z' || isDigit(b) || b == '_'
	}
	return in
}

func isDigit(b byte) bool {
	return '0' <= b && b <= '9'
}

func isSpace(b byte) bool {
	return strings.IndexByte(whiteSpace, b) >= 0
}

// isForbidden reports whether no source contains a character, or what a wrong byte is taken for.
func isForbidden(r rune) bool {
	return (r < ' ' || r > '~') && !strings.ContainsRune(whiteSpace, r)
}

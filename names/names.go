// Package names tells which texts are names. Several layers have names of the same forms; which of them are keywords is left to these layers.
package names

import (
	"strings"

	"cellarer/api"
)

// Lower reports whether a text begins with a lower-case letter, and is a name but for the keywords.
func Lower(s string) bool {
	return len(s) <= api.MaxName && isWord(s) && isLower(rune(s[0]))
}

// Upper reports whether a text is a Name, which begins with an upper-case letter.
func Upper(s string) bool {
	return len(s) <= api.MaxName && LongUpper(s)
}

// LongUpper reports whether a text is a Name but for its length, which is not limited.
func LongUpper(s string) bool {
	return isWord(s) && isUpper(rune(s[0]))
}

// Fun reports whether a text is the name of a function of core: a name, or two names with a point between them, where keywords count as names.
func Fun(s string) bool {
	first, second, isPair := strings.Cut(s, ".")
	return Lower(first) && (!isPair || Lower(second))
}

// isWord reports whether a text consists of bytes of names.
func isWord(s string) bool {
	return s != "" && !strings.ContainsFunc(s, func(r rune) bool {
		return !isLower(r) && !isUpper(r) && (r < '0' || r > '9') && r != '_'
	})
}

func isLower(r rune) bool {
	return 'a' <= r && r <= 'z'
}

func isUpper(r rune) bool {
	return 'A' <= r && r <= 'Z'
}

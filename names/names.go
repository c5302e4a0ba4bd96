// Package names tells which texts are names. Several layers have names of the same forms; which of them are keywords is left to these layers.
package names

import (
	"strings"

	"cellarer/api"
)

// Lower reports whether a text begins with a lower-case letter, and is a name but for the keywords.
func Lower(s string) bool {
	return isWord(s) && isLower(rune(s[0]))
}

// Upper reports whether a text is a Name, which begins with an upper-case letter.
func Upper(s string) bool {
	return isWord(s) && isUpper(rune(s[0]))
}

// isWord reports whether a text consists of bytes of names, and of as many as a name has.
func isWord(s string) bool {
	return s != "" && len(s) <= api.MaxName && !strings.ContainsFunc(s, func(r rune) bool {
		return !isLower(r) && !isUpper(r) && (r < '0' || r > '9') && r != '_'
	})
}

func isLower(r rune) bool {
	return 'a' <= r && r <= 'z'
}

func isUpper(r rune) bool {
	return 'A' <= r && r <= 'Z'
}

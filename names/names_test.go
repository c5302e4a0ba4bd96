package names

import (
	"regexp"
	"strings"
	"testing"

	"cellarer/api"
)

var plainLower, plainUpper = regexp.MustCompile(`^[a-z][A-Za-z0-9_]{0,31}$`), regexp.MustCompile(`^[A-Z][A-Za-z0-9_]{0,31}$`)

func check(t *testing.T, s string) {
	t.Helper()
	if got := Lower(s); got != plainLower.MatchString(s) {
		t.Errorf("Lower(%q) is %v", s, got)
	}
	if got := Upper(s); got != plainUpper.MatchString(s) {
		t.Errorf("Upper(%q) is %v", s, got)
	}
}

func TestBytes(t *testing.T) {
	for b := range 256 {
		text := string([]byte{byte(b)})
		for _, s := range []string{text, text + text, text + "x", text + "X", "x" + text, "X" + text, "x" + text + "x", "X_9" + text + "X"} {
			check(t, s)
		}
		for _, first := range "azAZ" {
			check(t, string(first)+strings.Repeat("x", api.MaxName-2)+text)
		}
	}
}

func TestLengths(t *testing.T) {
	for length := range 2 * api.MaxName {
		for _, first := range []string{"a", "A", "_", "0"} {
			check(t, first+strings.Repeat("z", length))
			check(t, strings.Repeat(first, length))
		}
	}
	check(t, strings.Repeat("x", api.MaxSource))
}

func TestOthers(t *testing.T) {
	for _, s := range []string{"", " ", "let", "Let", "x y", " x", "x ", "x\n", "\nx", "é", "xé", "Xé", "É", "x\xc3", "Χ", "x.y", "X.Y", "x\u0301", "K"} {
		check(t, s)
	}
}

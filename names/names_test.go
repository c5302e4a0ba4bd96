package names

import (
	"regexp"
	"strings"
	"testing"

	"cellarer/api"
)

var (
	plainLower     = regexp.MustCompile(`^[a-z][A-Za-z0-9_]{0,31}$`)
	plainUpper     = regexp.MustCompile(`^[A-Z][A-Za-z0-9_]{0,31}$`)
	plainLongUpper = regexp.MustCompile(`^[A-Z][A-Za-z0-9_]*$`)
	plainFun       = regexp.MustCompile(`^[a-z][A-Za-z0-9_]{0,31}(\.[a-z][A-Za-z0-9_]{0,31})?$`)
)

func check(t *testing.T, s string) {
	t.Helper()
	for _, c := range []struct {
		name  string
		is    func(string) bool
		plain *regexp.Regexp
	}{{"Lower", Lower, plainLower}, {"Upper", Upper, plainUpper}, {"LongUpper", LongUpper, plainLongUpper}, {"Fun", Fun, plainFun}} {
		if got := c.is(s); got != c.plain.MatchString(s) {
			t.Errorf("%s(%q) is %v", c.name, s, got)
		}
	}
}

func TestBytes(t *testing.T) {
	for b := range 256 {
		text := string([]byte{byte(b)})
		for _, s := range []string{text, text + text, text + "x", text + "X", "x" + text, "X" + text, "x" + text + "x", "X" + text + "x", "X_9" + text + "X"} {
			check(t, s)
			check(t, s+".x")
			check(t, "x."+s)
			check(t, "x.x"+s)
		}
		for _, first := range "azAZ" {
			check(t, string(first)+strings.Repeat("x", api.MaxName-2)+text)
			check(t, "x."+string(first)+strings.Repeat("x", api.MaxName-2)+text)
		}
	}
}

func TestLengths(t *testing.T) {
	for length := range 2 * api.MaxName {
		for _, first := range []string{"a", "A", "_", "0", "."} {
			for _, s := range []string{first + strings.Repeat("z", length), strings.Repeat(first, length)} {
				check(t, s)
				check(t, s+".x")
				check(t, "x."+s)
				check(t, s+"."+s)
			}
		}
	}
	check(t, strings.Repeat("x", api.MaxSource))
	check(t, strings.Repeat("X", api.MaxSource))
}

func TestOthers(t *testing.T) {
	for _, s := range []string{"", " ", "let", "Let", "x y", " x", "x ", "x\n", "\nx", "é", "xé", "Xé", "É", "x\xc3", "Χ", "x.y", "X.Y", "x\u0301", "K", ".", "..", ".x", "x.", "x..y", "x.y.z", "x.Y", "X.y", "let.in", "x.1", "x._", "x. y", "x .y"} {
		check(t, s)
	}
}

package token

import (
	"strings"
	"testing"

	"cellarer/api"
)

// long is a name with one byte too many.
var long = strings.Repeat("n", api.MaxName+1)

// TestBytes has each byte in a source, and in a comment.
func TestBytes(t *testing.T) {
	for i := range 256 {
		b := string([]byte{byte(i)})
		space := strings.Contains(" \t\r\n", b)
		if space || 32 <= i && i <= 126 {
			want := "l:x e:"
			if b == "\n" {
				want = "l:x l:z e:"
			}
			checkScan(t, "x --y"+b+"z", want)
		} else {
			checkScanError(t, b, 0, api.ErrText)
			checkScanError(t, "x --y"+b+"z"+b, 5, api.ErrText)
			checkScanError(t, "_a 1x "+b, 6, api.ErrText)
		}
		if begins := space || strings.Contains("(),|=:<+-*/%_", b) || '0' <= i && i <= '9' || 'A' <= i && i <= 'Z' || 'a' <= i && i <= 'z'; begins {
			if e := scanned(b).e; e != api.OK {
				t.Errorf("Scan(%q) returns the error %d", b, e)
			}
		} else if 32 <= i && i <= 126 {
			checkScanError(t, b, 0, api.ErrSyntax)
			checkScanError(t, "x"+b, 1, api.ErrSyntax)
			checkScanError(t, "x 1 "+b+b, 4, api.ErrSyntax)
		}
	}
	checkScanError(t, "x é", 2, api.ErrText)
	checkScanError(t, "x --\n \u2028", 6, api.ErrText)
	checkScanError(t, "x\u00a0", 1, api.ErrText)
}

func TestOrderOfScanErrors(t *testing.T) {
	full := strings.Repeat(" ", api.MaxSource)
	// Too many bytes, then bytes that are not allowed, then what is wrong from left to right.
	checkScanError(t, "\x00"+full, 0, api.ErrLong)
	checkScanError(t, full+"\x00", 0, api.ErrLong)
	checkScanError(t, "?"+full, 0, api.ErrLong)
	checkScanError(t, full[:api.MaxSource-1]+"\x00", api.MaxSource-1, api.ErrText)
	checkScanError(t, "? 1x _a 9223372036854775808 "+long+"\x00\x01", 28+len(long), api.ErrText)
	wrong := map[string]api.Errno{"?": api.ErrSyntax, ">": api.ErrSyntax, "_a": api.ErrSyntax, "__": api.ErrSyntax, "_0": api.ErrSyntax, "9223372036854775808": api.ErrRange, long: api.ErrLong, strings.ToUpper(long): api.ErrLong}
	for first, e := range wrong {
		for second := range wrong {
			checkScanError(t, "f "+first+" "+second, 2, e)
			checkScanError(t, "f("+first+"--"+second, 2, e)
		}
		checkScanError(t, "1x "+first, 1, api.ErrSyntax)
		checkScanError(t, "--"+first+"\n(-1_ "+first, len(first)+6, api.ErrSyntax)
	}
	// In a comment nothing else is wrong.
	checkScan(t, "f --? 1x _a 9223372036854775808 "+long, "l:f e:")
}

func TestLettersBehindNumbers(t *testing.T) {
	for _, n := range []string{"0", "42", "-7", "0009", "9223372036854775807", "-9223372036854775808"} {
		for _, letter := range []string{"a", "z", "A", "Z", "_", "let", "_a", "__", "x1", "e5", "_9"} {
			checkScanError(t, n+letter, len(n), api.ErrSyntax)
			checkScanError(t, "f("+n+letter+")", 2+len(n), api.ErrSyntax)
			checkScanError(t, n+" "+n[len(n)-1:]+letter, len(n)+2, api.ErrSyntax)
		}
		for _, apart := range []string{" a", "(a", "\na", "--\na", "+a", " _", "-_", "->_"} {
			if got := scanned(n + apart); got.e != api.OK {
				t.Errorf("Scan(%q) returns the error %d", n+apart, got.e)
			}
		}
	}
	// Of two errors at the same byte the first one of the chapter is returned.
	checkScanError(t, "1"+long, 1, api.ErrLong)
	checkScanError(t, "1"+long[1:], 1, api.ErrSyntax)
	checkScanError(t, "9223372036854775808"+long, 0, api.ErrRange)
}

func TestLongestNames(t *testing.T) {
	for _, first := range []string{"a", "z", "A", "Z", "let", "module_", "Let"} {
		for _, last := range []string{"a", "Z", "0", "_"} {
			name := first + strings.Repeat(last, api.MaxName-len(first))
			kind := "l:"
			if first[0] <= 'Z' {
				kind = "u:"
			}
			checkScan(t, name, kind+name+" e:")
			checkScan(t, name+" "+name+"--"+name+name, kind+name+" "+kind+name+" e:")
			checkScanError(t, name+last, 0, api.ErrLong)
			checkScanError(t, "f("+name+last, 2, api.ErrLong)
			checkScanError(t, name+" "+name+last+last, len(name)+1, api.ErrLong)
		}
	}
	checkScanError(t, strings.Repeat("x", api.MaxSource), 0, api.ErrLong)
	checkScanError(t, strings.Repeat("_", api.MaxName+1), 0, api.ErrSyntax)
}

func TestLongestSources(t *testing.T) {
	for _, src := range []string{"", "x", "x ", "x --"} {
		for _, fill := range []string{" ", "\n", "-"} {
			full := src + strings.Repeat(fill, api.MaxSource-len(src))
			got := scanned(full)
			if want := plainScan(full); !got.equal(want) || got.e != api.OK {
				t.Errorf("Scan(%s) returns %s, want %s", brief(full), brief(got), brief(want))
			}
			checkScanError(t, full+fill, 0, api.ErrLong)
		}
	}
	for _, token := range []string{"(", "x ", "-1\n+", "<=", "copy--\n  "} {
		full := strings.Repeat(token, api.MaxSource/len(token))
		count := len(scanned(token).tokens) - 1
		if got := scanned(full); got.e != api.OK || len(got.tokens) != count*(api.MaxSource/len(token))+1 {
			t.Errorf("Scan(%s) returns %d tokens and the error %d", brief(full), len(got.tokens), got.e)
		}
		checkScanError(t, full+strings.Repeat(" ", api.MaxSource+1-len(full)), 0, api.ErrLong)
	}
}

package parser

import (
	"strings"
	"testing"

	"cellarer/api"
)

// TestWrongModules has a mark at the first token with which nothing goes on.
func TestWrongModules(t *testing.T) {
	for _, src := range []string{
		"@", "  \n-- none\n@", "@x", "@Module m", "@fun f : T = 1", "@(module m)", "module@", "module @", "module @M", "module @1", "module @let", "module m @m", "module m @(", "module m @1", "module m @module m",
		"module m import @", "module m import @A (x)", "module m import a @", "module m import a @x", "module m import a (@)", "module m import a (@X)", "module m import a (x @y)", "module m import a (x, @)", "module m import a (x,@,x)", "module m import a (x @", "module m import a (x) @,", "module m import a (x) @(",
		"module m data D = C @import a (x)", "module m fun f : T = 1 @import a (x)", "module m import a (x) data D = C @import a (x)",
		"module m data @", "module m data @d = C", "module m data D @", "module m data D @C", "module m data D @== C", "module m data D = @", "module m data D = @c", "module m data D = @| C", "module m data D = C @c", "module m data D = C @(C)", "module m data D = C | @", "module m data D = C | @| C", "module m data D = C D @1", "module m data D = C @= C",
		"module m fun @", "module m fun @F : T = 1", "module m fun @copy : T = 1", "module m fun f @= 1", "module m fun f @x : T = 1", "module m fun f @", "module m fun f : @", "module m fun f : @t = 1", "module m fun f : @(T) = 1", "module m fun f : T @", "module m fun f : T @T = 1", "module m fun f : T @== 1", "module m fun f : T = @", "module m fun f : T = @fun g : T = 1", "module m fun f : T = 1 @= 1",
		"module m fun f (@", "module m fun f (@) : T = 1", "module m fun f (@X : T) : T = 1", "module m fun f (read @", "module m fun f (read @read x : T) : T = 1", "module m fun f (read @: T) : T = 1", "module m fun f (x @) : T = 1", "module m fun f (x @, y : T) : T = 1", "module m fun f (x : @) : T = 1", "module m fun f (x : @t) : T = 1", "module m fun f (x : T @T) : T = 1", "module m fun f (x : T @, y : T) : T = 1", "module m fun f (x : T @= 1", "module m fun f (x : T) (@(y : T)) : T = 1",
		"module m fun f : T = x @: T", "module m fun f : T = x @= 1", "module m fun f : T = (x @fun g : T = 1", "module m fun f : T = let x = 1 @fun g : T = 1", "module m fun f : T = x data D = C @x",
	} {
		src, at := marked(src)
		checkError(t, Parse, src, at, api.ErrSyntax)
		// What follows does not matter, and neither do white space and comments.
		if at < len(src) {
			checkError(t, Parse, src+" ) -> module end 1", at, api.ErrSyntax)
			checkError(t, Parse, src[:at]+"--\n \t"+src[at:], at+5, api.ErrSyntax)
		} else {
			checkError(t, Parse, src+" -- x\n ", at+len(" -- x\n "), api.ErrSyntax)
		}
	}
}

func TestWrongExpressions(t *testing.T) {
	for _, src := range []string{
		"@", "(@", "(@)", "@)", "@_", "@,", "@|", "@->", "@=", "@:", "@+", "@*", "@<", "@module", "@import", "@data", "@fun", "@read", "@in", "@then", "@else", "@with", "@end",
		"x @)", "(x @", "(x @,", "((x) @", "x @_", "x @let y = 1 in y", "x @if", "x @match", "x @copy", "1 @1", "1 @x", "1 @X", "1 @(1)", "(f) @x", "(F) @x", "(f x) @(y)", "(x) @(x)",
		"x +@", "x + @+", "x + @let y = 1 in y", "x * @if a then b else c", "x < @match x with | _ -> 1 end", "x + @)", "1 < 2 @< 3", "1 <= 2 @== 3", "1 == 2 + 3 @<= 4", "(1 < 2 @< 3)", "1 + 2 < 3 * 4 @< 5", "a < b +@", "a < b @< c + d", "x @= 1", "f x @= 1", "1 < @<", "1 <= @= 2",
		"copy @", "copy @+", "copy @copy x", "copy @let", "copy x @y", "copy F @x", "copy 1 @2", "copy (x) @(y)", "f @copy x", "f x @copy y", "F @copy x", "f @let x = 1 in x", "f @if", "f x @_",
		"let @", "let @X", "let @let", "let x @", "let x @x = 1", "let x @== 1", "let x = @", "let x = @in", "let x = 1@", "let x = 1 @, y", "let x = 1 @let", "let x = 1 in @", "let x = 1 in @in", "let x = 1 in x @in", "let x = let y = 1 in y @", "(let x = 1 @)", "(let x = 1 in x @",
		"if @", "if @then", "if a @", "if a @else", "if a then @", "if a then @else", "if a then b @", "if a then b @)", "if a then b @then", "if a then b else @", "if a then b else @end", "if a then b else c @else d", "if if a then b else c @else",
		"match @", "match @with", "match x @", "match x, @", "match x, @with", "match x @, , y"[:len("match x @")], "match x @| A -> 1 end", "match x @end", "match x with @", "match x with @A -> 1 end", "match x with @end", "match x with | @", "match x with | @| A -> 1 end", "match x with | @end",
		"match x with | A @", "match x with | A @= 1", "match x with | A @| B -> 1 end", "match x with | A -> @", "match x with | A -> @end", "match x with | A -> @| B -> 1 end", "match x with | A -> 1 @", "match x with | A -> 1 @, B", "match x with | A -> 1 @-> 2", "match x with | A -> 1 | @end", "match x with | A -> 1 end @end", "match x with | A -> 1 end @x", "match x with | A -> 1 end @| B -> 1",
		"view x with | A @, B -> 1 end", "view x, y with | A @-> 1 end", "view x, y with | A, @-> 1 end", "view x, y with | A, B @, C -> 1 end", "view x, y with | A, B @", "view x, y with | A, B -> 1 | A @-> 1 end", "view x, y with | A, B -> 1 | A, B @, C -> 1 end", "view x, y, z with | A, B @-> 1 end", "view x, y, z with | A x y, (B _) @-> 1 end",
		"view x, y with | (A @, B) -> 1 end", "view x, y with | A, (B @-> 1 end", "match match x, y with | A, B -> 1 end with | A @, B -> 1 end", "match x, y with | A, B -> match x with | C @, D -> 1 end end", "match x with | A -> match x, y with | C, D -> 1 end | B @, C -> 1 end", "match x, match y with | A @, B -> 1 end with | A, B -> 1 end",
	} {
		src, at := marked(src)
		checkError(t, Expr, src, at, api.ErrSyntax)
		if at == len(src) {
			checkError(t, Expr, src+" -- x\n ", at+len(" -- x\n "), api.ErrSyntax)
		} else {
			checkError(t, Expr, src+" ) -> module end 1", at, api.ErrSyntax)
			checkError(t, Expr, src[:at]+"--\n \t"+src[at:], at+5, api.ErrSyntax)
		}
	}
}

// TestOrderOfErrors has sources with more than one error.
func TestOrderOfErrors(t *testing.T) {
	for _, c := range []struct {
		src string
		e   api.Errno
	}{
		{"1 1 1 @\x00", api.ErrText}, {"-- @é\n ? 1 1", api.ErrText}, {") 9223372036854775808 @\x7f", api.ErrText},
		{") @?", api.ErrSyntax}, {") (1@x", api.ErrSyntax}, {") @_x", api.ErrSyntax}, {") @9223372036854775808", api.ErrRange}, {"f x )(- 1 + @-9223372036854775809", api.ErrRange}, {") @x" + strings.Repeat("y", api.MaxName), api.ErrLong}, {"@X" + strings.Repeat("y", api.MaxName) + " )", api.ErrLong},
		{"@-9223372036854775809", api.ErrRange}, {"1@_", api.ErrSyntax}, {"1@x )", api.ErrSyntax},
	} {
		src, at := marked(c.src)
		checkError(t, Expr, src, at, c.e)
		checkError(t, Parse, src, at, c.e)
		checkError(t, Expr, "("+src, at+1, c.e)
		checkError(t, Parse, "module m = "+src, at+11, c.e)
	}
	long := strings.Repeat(" ", api.MaxSource+1)
	for _, src := range []string{long, ")" + long, "\x00" + long, "module m" + long, "x" + long} {
		checkError(t, Expr, src, 0, api.ErrLong)
		checkError(t, Parse, src, 0, api.ErrLong)
	}
}

package parser

import "testing"

// TestSpansOfModules has below each source the ranges of its leaves in preorder.
func TestSpansOfModules(t *testing.T) {
	checkSpans(t, Parse, ""+
		" module m  -- x\n ",
		" --------")
	checkSpans(t, Parse, ""+
		"module m import a (x , y) ",
		"-------------------------|"+
			"         ----------------|"+
			"                   -|"+
			"                       -")
	checkSpans(t, Parse, ""+
		"module m data D = C |C D  Int data E=C",
		"--------------------------------------|"+
			"         --------------------|"+
			"                  -|"+
			"                     --------|"+
			"                       -|"+
			"                          ---|"+
			"                              --------|"+
			"                                     -")
	checkSpans(t, Parse, ""+
		"module m fun f(x:A)( read y : B ) : C = (x)  data D = C",
		"-------------------------------------------------------|"+
			"         ----------------------------------|"+
			"              -----|"+
			"                 -|"+
			"                   --------------|"+
			"                              -|"+
			"                                    -|"+
			"                                         -|"+
			"                                             ----------|"+
			"                                                      -")
}

func TestSpansOfExpressions(t *testing.T) {
	checkSpans(t, Expr, " x ", " -")
	checkSpans(t, Expr, " X--", " -")
	checkSpans(t, Expr, " -12 ", " ---")
	checkSpans(t, Expr, "( (x) )", "   -")
	checkSpans(t, Expr, ""+
		"(1 + 2) * 3",
		"-----------|"+
			" -----|"+
			" -|"+
			"     -|"+
			"          -")
	checkSpans(t, Expr, ""+
		"(3 * ((1) + ( -2 ))) < 1",
		"------------------------|"+
			" ------------------|"+
			" -|"+
			"      ------------|"+
			"       -|"+
			"              --|"+
			"                       -")
	checkSpans(t, Expr, ""+
		"(a) - b - (c)",
		"-------------|"+
			"-------|"+
			" -|"+
			"      -|"+
			"           -")
	checkSpans(t, Expr, ""+
		"f (g x)  C (C 1)",
		"----------------|"+
			"   ---|"+
			"     -|"+
			"         -|"+
			"            ---|"+
			"              -")
	checkSpans(t, Expr, ""+
		"C ( copy (x) )",
		"--------------|"+
			"    --------|"+
			"          -")
	checkSpans(t, Expr, ""+
		"let x = (1) in ( let y = 2 in (y) ) ",
		"-----------------------------------|"+
			"         -|"+
			"                 ----------------|"+
			"                         -|"+
			"                               -")
	checkSpans(t, Expr, ""+
		"if (a) then (b) else ((c))",
		"--------------------------|"+
			"    -|"+
			"             -|"+
			"                       -")
}

func TestSpansOfMatches(t *testing.T) {
	checkSpans(t, Expr, ""+
		"match (x), y with | (A) , B (_) n -> (1) | -1, (((z))) -> z end --",
		"---------------------------------------------------------------|"+
			"       -|"+
			"           -|"+
			"                    --------------------|"+
			"                     -|"+
			"                          -------|"+
			"                             -|"+
			"                                -|"+
			"                                      -|"+
			"                                           ----------------|"+
			"                                           --|"+
			"                                                  -|"+
			"                                                          -")
	checkSpans(t, Expr, ""+
		"(view x with|( A (B C) )->match y with|_->1 end end)",
		" --------------------------------------------------|"+
			"      -|"+
			"             ----------------------------------|"+
			"               -------|"+
			"                  ---|"+
			"                    -|"+
			"                          ---------------------|"+
			"                                -|"+
			"                                       ----|"+
			"                                       -|"+
			"                                          -")
}

package parser

import (
	"maps"
	"regexp"
	"slices"
	"strconv"
	"strings"
	"testing"

	"cellarer/api"
	"cellarer/token"
)

// grammarText is the grammar of the chapter, without the expressions that begin with match or view.
const grammarText = `
	module   = "module" name {import} {data | fun}
	import   = "import" name "(" name {"," name} ")"
	data     = "data" Name "=" con {"|" con}
	con      = Name {Name}
	fun      = "fun" name {param} ":" Name "=" expr
	param    = "(" ["read"] name ":" Name ")"
	expr     = "let" name "=" expr "in" expr
	         | "if" expr "then" expr "else" expr
	         | matches
	         | binary
	binary   = sum [("<" | "<=" | "==") sum]
	sum      = product {("+" | "-") product}
	product  = apply {("*" | "/" | "%") apply}
	apply    = name atom {atom} | Name {atom} | "copy" atom | atom
	atom     = name | Name | number | "(" expr ")"
	pattern  = Name {patatom} | patatom
	patatom  = "_" | name | number | Name | "(" pattern ")"`

// mostScrutinees is how many scrutinees a match or view has at most in the grammar of the oracle.
const mostScrutinees = 6

// grammar has the rules of each symbol that is not a terminal: sequences of symbols. The terminals are name, Name, number, end and the texts in quotes.
type grammar map[string][][]string

// fullGrammar returns the grammar of modules, the symbol module, and of expressions, the symbol expr, with a clause for each number of scrutinees.
func fullGrammar() grammar {
	text := grammarText + "\nmatches = match1"
	for n := 2; n <= mostScrutinees; n++ {
		text += " | match" + strconv.Itoa(n)
	}
	for n := 1; n <= mostScrutinees; n++ {
		more, number := strings.Repeat(`"," @ `, n-1), strconv.Itoa(n)
		text += "\nmatch" + number + ` = ("match" | "view") expr ` + strings.ReplaceAll(more, "@", "expr") + ` "with" "|" clause` + number + ` {"|" clause` + number + `} "end"`
		text += "\nclause" + number + ` = pattern ` + strings.ReplaceAll(more, "@", "pattern") + ` "->" expr`
	}
	r := reader{words: regexp.MustCompile(`"[^"]*"|\w+|\S`).FindAllString(text, -1), out: grammar{}}
	for len(r.words) > 0 {
		symbol := r.words[0]
		r.words = r.words[2:]
		r.out[symbol] = r.choices()
	}
	return r.out
}

// reader reads rules. A part of a rule in brackets gets a symbol of its own.
type reader struct {
	words []string
	out   grammar
}

func (r *reader) choices() [][]string {
	all := [][]string{r.sequence()}
	for len(r.words) > 0 && r.words[0] == "|" {
		r.words = r.words[1:]
		all = append(all, r.sequence())
	}
	return all
}

func (r *reader) sequence() []string {
	out := []string{}
	for len(r.words) > 0 && !strings.Contains("|)]}", r.words[0]) && (len(r.words) < 2 || r.words[1] != "=") {
		word := r.words[0]
		r.words = r.words[1:]
		if !strings.Contains("([{", word) {
			out = append(out, word)
			continue
		}
		symbol := "part" + strconv.Itoa(len(r.out))
		r.out[symbol] = nil
		inner := r.choices()
		r.words = r.words[1:]
		if word == "{" {
			for i := range inner {
				inner[i] = append(inner[i], symbol)
			}
		}
		if word != "(" {
			inner = append(inner, nil)
		}
		r.out[symbol] = inner
		out = append(out, symbol)
	}
	return out
}

// place is a place in a rule, and the number of terminals before the rule begins.
type place struct {
	symbol string
	rule   int
	done   int
	from   int
}

// chart has, for each number of terminals, the places at which the rules are behind them.
type chart struct {
	rules grammar
	sets  []map[place]bool
}

// begun returns the chart of no terminals, of a source that a symbol is to derive, followed by the end.
func begun(g grammar, symbol string) chart {
	rules := maps.Clone(g)
	rules["source"] = [][]string{{symbol, "end"}}
	c := chart{rules, []map[place]bool{{{"source", 0, 0, 0}: true}}}
	c.close()
	return c
}

// next returns the symbol behind a place, or nothing at the end of its rule.
func (c chart) next(p place) string {
	rule := c.rules[p.symbol][p.rule]
	if p.done == len(rule) {
		return ""
	}
	return rule[p.done]
}

// close adds to the last set what follows from it without another terminal.
func (c chart) close() {
	last := len(c.sets) - 1
	work := slices.Collect(maps.Keys(c.sets[last]))
	add := func(p place) {
		if !c.sets[last][p] {
			c.sets[last][p] = true
			work = append(work, p)
		}
	}
	for len(work) > 0 {
		p := work[0]
		work = work[1:]
		symbol := c.next(p)
		for i := range c.rules[symbol] {
			add(place{symbol, i, 0, last})
		}
		if symbol != "" {
			// What may be empty may be passed at once.
			if slices.ContainsFunc(c.rules[symbol], func(rule []string) bool { return len(rule) == 0 }) {
				add(place{p.symbol, p.rule, p.done + 1, p.from})
			}
			continue
		}
		for q := range c.sets[p.from] {
			if c.next(q) == p.symbol {
				add(place{q.symbol, q.rule, q.done + 1, q.from})
			}
		}
	}
}

// after returns the chart with a further terminal, and whether something can go on behind it.
func (c chart) after(terminal string) (chart, bool) {
	set := map[place]bool{}
	for p := range c.sets[len(c.sets)-1] {
		if c.next(p) == terminal {
			set[place{p.symbol, p.rule, p.done + 1, p.from}] = true
		}
	}
	next := chart{c.rules, append(slices.Clip(c.sets), set)}
	next.close()
	return next, len(set) > 0
}

// terminal returns what the grammar calls a token.
func terminal(t token.Token) string {
	switch t.Kind {
	case token.Lower:
		return "name"
	case token.Upper:
		return "Name"
	case token.Number:
		return "number"
	case token.End:
		return "end"
	}
	return `"` + t.Text + `"`
}

// behind returns the chart behind the tokens of a source other than the end, and the offset of the first one with which nothing can go on, or -1.
func (c chart) behind(src string) (chart, int) {
	tokens, _, _, _ := token.Scan(src)
	for _, t := range tokens[:len(tokens)-1] {
		next, ok := c.after(terminal(t))
		if !ok {
			return c, t.At.From
		}
		c = next
	}
	return c, -1
}

// alphabet has a token of each kind, and all keywords and punctuation.
var alphabet = strings.Fields("x X 7 module import data fun read let in if then else match view with end copy ( ) , | = == : -> < <= + - * / % _")

// checkAll checks all sources that begin with a source, behind which the chart is, have a number of further tokens, and are wrong at most at the last one.
func checkAll(t *testing.T, read reading, c chart, src string, further int) int {
	count := 0
	if _, ok := c.after("end"); ok {
		if _, at, e := read(src); at != 0 || e != api.OK {
			t.Fatalf("%s returns %d, %d", src, at, e)
		}
	} else {
		checkError(t, read, src, len(src), api.ErrSyntax)
	}
	for _, text := range alphabet {
		next, wrong := c.behind(text)
		count++
		longer := src + " " + text
		if wrong == 0 {
			checkError(t, read, longer, len(longer)-len(text), api.ErrSyntax)
			checkError(t, read, longer+" x ) end", len(longer)-len(text), api.ErrSyntax)
		} else if further > 1 {
			count += checkAll(t, read, next, longer, further-1)
		}
	}
	return count
}

// TestAllShort compares with the grammar of the chapter: all sources that begin as given, and have a number of further tokens.
func TestAllShort(t *testing.T) {
	g := fullGrammar()
	for src, further := range map[string]int{
		"": 4, "let x = 1 in": 3, "(x": 3, "f (g x) +": 3, "if x then y": 4, "match x with | A": 4, "match x, y with": 4, "view x, y, z with | (A": 4,
		"match x with | A -> 1": 4, "view match x, y with | _, _ -> 1 end with | A ->": 3, "match x, y with | 1, (B _": 4, "match x, y with | A x, 1 -> copy x | A": 4,
	} {
		c, _ := begun(g, "expr").behind(src)
		if count := checkAll(t, Expr, c, src, further); count < 500 {
			t.Errorf("only %d sources begin with %s", count, src)
		}
	}
	for src, further := range map[string]int{
		"": 5, "module m import": 6, "module m import a (x) fun": 4, "module m data D": 5, "module m data D = C D | C": 4, "module m fun f (read x : T)": 4, "module m fun f (": 6, "module m fun f : T =": 3,
	} {
		c, _ := begun(g, "module").behind(src)
		if count := checkAll(t, Parse, c, src, further); count < 150 {
			t.Errorf("only %d sources begin with %s", count, src)
		}
	}
}

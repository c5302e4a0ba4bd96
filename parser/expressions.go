package parser

import (
	"math"
	"strconv"

	"cellarer/api"
	"cellarer/syntax"
	"cellarer/token"
)

func (p *parser) expr() int {
	switch p.next().Text {
	case "let":
		return p.let()
	case "if":
		return p.choice()
	case "match":
		return p.match(syntax.Match)
	case "view":
		return p.match(syntax.View)
	}
	return p.binary()
}

func (p *parser) let() int {
	first := p.taken
	p.expect("let")
	name := p.take(token.Lower)
	p.expect("=")
	value := p.expr()
	p.expect("in")
	return p.add(first, api.Leaf{Kind: syntax.Let, Text: name, Kids: []int{value, p.expr()}})
}

func (p *parser) choice() int {
	first := p.taken
	p.expect("if")
	condition := p.expr()
	p.expect("then")
	yes := p.expr()
	p.expect("else")
	return p.add(first, api.Leaf{Kind: syntax.If, Kids: []int{condition, yes, p.expr()}})
}

// match parses a match or a view, whose keyword is the next token.
func (p *parser) match(kind int) int {
	first := p.taken
	p.take(token.Word)
	kids := p.list(",", p.expr)
	scrutinees := len(kids)
	p.expect("with")
	p.expect("|")
	kids = append(kids, p.list("|", func() int { return p.clause(scrutinees) })...)
	p.expect("end")
	return p.add(first, api.Leaf{Kind: kind, Num: int64(scrutinees), Kids: kids})
}

// clause parses a clause with a number of patterns.
func (p *parser) clause(patterns int) int {
	first := p.taken
	kids := []int{p.pattern()}
	for len(kids) < patterns {
		p.expect(",")
		kids = append(kids, p.pattern())
	}
	p.expect("->")
	return p.add(first, api.Leaf{Kind: syntax.Clause, Kids: append(kids, p.expr())})
}

// binary parses an expression with operators, where comparisons do not associate.
func (p *parser) binary() int { return p.level(p.sum, comparison, 1) }

func (p *parser) sum() int { return p.level(p.product, addition, math.MaxInt) }

func (p *parser) product() int { return p.level(p.apply, multiplication, math.MaxInt) }

// level parses operands with operators of one level between them, at most as many as given, from left to right.
func (p *parser) level(operand func() int, operation func(string) (int64, bool), most int) int {
	first := p.taken
	left := operand()
	for range most {
		op, ok := operation(p.next().Text)
		if !ok {
			break
		}
		p.taken++
		left = p.add(first, api.Leaf{Kind: syntax.Binary, Num: op, Kids: []int{left, operand()}})
	}
	return left
}

// comparison returns the operation of an operator, and whether it is one of this level.
func comparison(operator string) (int64, bool) {
	switch operator {
	case "<":
		return api.Less, true
	case "<=":
		return api.Most, true
	case "==":
		return api.Equal, true
	}
	return 0, false
}

func addition(operator string) (int64, bool) {
	switch operator {
	case "+":
		return api.Add, true
	case "-":
		return api.Sub, true
	}
	return 0, false
}

func multiplication(operator string) (int64, bool) {
	switch operator {
	case "*":
		return api.Mul, true
	case "/":
		return api.Div, true
	case "%":
		return api.Mod, true
	}
	return 0, false
}

// apply parses an application of a function, a constructor or copy, or an atom.
func (p *parser) apply() int {
	first := p.taken
	switch {
	case p.next().Kind == token.Lower:
		l := api.Leaf{Kind: syntax.Name, Text: p.take(token.Lower), Kids: p.atoms()}
		if len(l.Kids) > 0 {
			l.Kind = syntax.Apply
		}
		return p.add(first, l)
	case p.next().Kind == token.Upper:
		return p.add(first, api.Leaf{Kind: syntax.Build, Text: p.take(token.Upper), Kids: p.atoms()})
	case p.accept("copy"):
		return p.add(first, api.Leaf{Kind: syntax.Copy, Kids: []int{p.atom()}})
	}
	return p.atom()
}

func (p *parser) atoms() []int {
	var leaves []int
	for beginsAtom(p.next()) {
		leaves = append(leaves, p.atom())
	}
	return leaves
}

func (p *parser) atom() int {
	switch first := p.taken; p.next().Kind {
	case token.Lower:
		return p.name()
	case token.Upper:
		return p.add(first, api.Leaf{Kind: syntax.Build, Text: p.take(token.Upper)})
	case token.Number:
		return p.add(first, api.Leaf{Kind: syntax.Num, Num: p.number()})
	}
	return p.enclosed(p.expr)
}

func (p *parser) pattern() int {
	if p.next().Kind != token.Upper {
		return p.patternAtom()
	}
	first := p.taken
	name := p.take(token.Upper)
	var kids []int
	for beginsAtom(p.next()) || p.next().Text == "_" {
		kids = append(kids, p.patternAtom())
	}
	return p.add(first, api.Leaf{Kind: syntax.PCon, Text: name, Kids: kids})
}

func (p *parser) patternAtom() int {
	first := p.taken
	switch p.next().Kind {
	case token.Lower:
		return p.add(first, api.Leaf{Kind: syntax.PName, Text: p.take(token.Lower)})
	case token.Upper:
		return p.add(first, api.Leaf{Kind: syntax.PCon, Text: p.take(token.Upper)})
	case token.Number:
		return p.add(first, api.Leaf{Kind: syntax.PNum, Num: p.number()})
	}
	if p.accept("_") {
		return p.add(first, api.Leaf{Kind: syntax.PWild})
	}
	return p.enclosed(p.pattern)
}

// number takes a Number, whose range the scanner has checked.
func (p *parser) number() int64 {
	n, _ := strconv.ParseInt(p.take(token.Number), 10, 64)
	return n
}

// beginsAtom reports whether an atom begins with a token. A pattern may begin with the same ones, and with a _.
func beginsAtom(t token.Token) bool {
	return t.Kind == token.Lower || t.Kind == token.Upper || t.Kind == token.Number || t.Text == "("
}

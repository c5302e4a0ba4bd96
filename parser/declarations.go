package parser

import (
	"cellarer/api"
	"cellarer/syntax"
	"cellarer/token"
)

func (p *parser) module() int {
	first := p.taken
	p.expect("module")
	name := p.take(token.Lower)
	var kids []int
	for p.next().Text == "import" {
		kids = append(kids, p.imports())
	}
	for {
		switch p.next().Text {
		case "data":
			kids = append(kids, p.data())
		case "fun":
			kids = append(kids, p.fun())
		default:
			return p.add(first, api.Leaf{Kind: syntax.Module, Text: name, Kids: kids})
		}
	}
}

func (p *parser) imports() int {
	first := p.taken
	p.expect("import")
	name := p.take(token.Lower)
	p.expect("(")
	kids := p.list(",", p.name)
	p.expect(")")
	return p.add(first, api.Leaf{Kind: syntax.Import, Text: name, Kids: kids})
}

func (p *parser) data() int {
	first := p.taken
	p.expect("data")
	name := p.take(token.Upper)
	p.expect("=")
	return p.add(first, api.Leaf{Kind: syntax.Data, Text: name, Kids: p.list("|", p.con)})
}

func (p *parser) con() int {
	first := p.taken
	name := p.take(token.Upper)
	var kids []int
	for p.next().Kind == token.Upper {
		kids = append(kids, p.typeName())
	}
	return p.add(first, api.Leaf{Kind: syntax.Con, Text: name, Kids: kids})
}

func (p *parser) fun() int {
	first := p.taken
	p.expect("fun")
	name := p.take(token.Lower)
	var kids []int
	for p.next().Text == "(" {
		kids = append(kids, p.param())
	}
	p.expect(":")
	kids = append(kids, p.typeName())
	p.expect("=")
	kids = append(kids, p.expr())
	return p.add(first, api.Leaf{Kind: syntax.Fun, Text: name, Kids: kids})
}

func (p *parser) param() int {
	first := p.taken
	p.expect("(")
	var borrowed int64
	if p.accept("read") {
		borrowed = 1
	}
	name := p.take(token.Lower)
	p.expect(":")
	kid := p.typeName()
	p.expect(")")
	return p.add(first, api.Leaf{Kind: syntax.Param, Text: name, Num: borrowed, Kids: []int{kid}})
}

func (p *parser) typeName() int {
	first := p.taken
	return p.add(first, api.Leaf{Kind: syntax.Type, Text: p.take(token.Upper)})
}

func (p *parser) name() int {
	first := p.taken
	return p.add(first, api.Leaf{Kind: syntax.Name, Text: p.take(token.Lower)})
}

package core

import (
	"strconv"
	"strings"

	"cellarer/api"
	"cellarer/datas"
	"cellarer/names"
)

// Parse returns the program with a text, or the offset of what is wrong.
func Parse(s string) (api.Program, int, api.Errno) {
	if len(s) > api.MaxSource {
		return api.Program{}, 0, api.ErrLong
	}
	// The first reading finds the names that exist, the second one what they stand for, and the third one the types of calls whose functions come later.
	var known *api.Program
	for range 3 {
		r := parser{source: s, known: known, program: api.Program{Datas: []api.Data{{Name: "Bool", Cons: []api.Con{{Name: "False"}, {Name: "True"}}}}}}
		if at, e := r.run(); e != api.OK {
			return api.Program{}, at, e
		}
		known = &r.program
	}
	if e := Check(*known); e != api.OK {
		return api.Program{}, 0, e
	}
	// All that a line can say and the program does not is the name of a constructor that is not the one of its place.
	if text, _ := Text(*known); text != s {
		return api.Program{}, 0, api.ErrType
	}
	return *known, 0, api.OK
}

// parser reads lines from first to last. Its methods for lines panic at the first one that is wrong.
type parser struct {
	source  string
	at      int          // the offset of the line that was taken last
	next    int          // the offset of the next line
	known   *api.Program // has the types, constructors and functions that exist; nil if this is not known yet
	program api.Program  // what has been read
	vars    map[int]api.Var
	code    []api.Node
}

// wrong is what a parser panics with: the offset of the line that is wrong, and the error.
type wrong struct {
	at int
	e  api.Errno
}

// run reads all lines, or returns the offset of the one that is wrong.
func (p *parser) run() (at int, e api.Errno) {
	e = api.ErrSyntax // if a panic prevents the return
	defer func() {
		if w, ok := recover().(wrong); ok {
			at, e = w.at, w.e
		}
	}()
	for p.begins("data ") {
		p.data(p.line(""))
	}
	for p.next < len(p.source) {
		p.fun(p.line(""))
	}
	return 0, api.OK
}

// begins reports whether there is a next line that begins with a text.
func (p *parser) begins(text string) bool {
	return strings.HasPrefix(p.source[p.next:], text)
}

// line takes the next line, which must begin with an indentation, and returns what follows that.
func (p *parser) line(indent string) string {
	p.at = p.next
	text, _, ended := strings.Cut(p.source[p.at:], "\n")
	p.require(ended)
	p.next += len(text) + 1
	text, indented := strings.CutPrefix(text, indent)
	p.require(indented)
	return text
}

// require panics if the line is not one that can stand there.
func (p *parser) require(ok bool) {
	if !ok {
		panic(wrong{p.at, api.ErrSyntax})
	}
}

// exists panics if something that the line names does not exist, as far as this is known already.
func (p *parser) exists(ok bool) {
	if p.known != nil && !ok {
		panic(wrong{p.at, api.ErrNone})
	}
}

// typeOf returns the type with a name.
func (p *parser) typeOf(name string) api.Type {
	p.require(names.Upper(name))
	if p.known == nil {
		return api.Int
	}
	t, ok := datas.Type(p.known.Datas, name)
	p.exists(ok)
	return t
}

// con returns the place of the constructor with a name.
func (p *parser) con(name string) api.Place {
	p.require(names.Upper(name))
	if p.known == nil {
		return api.Place{}
	}
	t, con, ok := datas.Con(p.known.Datas, name)
	p.exists(ok)
	return api.Place{Type: t, Con: con}
}

// function returns the function with a name, and the type of its result.
func (p *parser) function(name string) (int, api.Type) {
	p.require(names.Fun(name))
	if p.known == nil {
		return 0, api.Int
	}
	fun, ok := Find(*p.known, name)
	p.exists(ok)
	return fun, p.known.Funs[fun].Result
}

// variable returns the variable of a word.
func (p *parser) variable(word string) int {
	v, err := strconv.Atoi(strings.TrimPrefix(word, "v"))
	p.require(err == nil && v >= 0 && v < api.MaxVars && word == wordOf(v))
	return v
}

// variables returns the variables of words.
func (p *parser) variables(words []string) []int {
	var vars []int
	for _, word := range words {
		vars = append(vars, p.variable(word))
	}
	return vars
}

// earlier returns the only variable of words, which must be one of an earlier line, and its type.
func (p *parser) earlier(words []string) ([]int, api.Type) {
	p.require(len(words) == 1)
	vars := p.variables(words)
	v, ok := p.vars[vars[0]]
	p.exists(ok)
	return vars, v.Type
}

package printer

import (
	"strconv"

	"cellarer/api"
	"cellarer/syntax"
)

// operator is how an operation is written, and the level of expressions with it.
type operator struct {
	text  string
	level int
}

var operators = [api.Prims]operator{
	api.Add: {"+", 2}, api.Sub: {"-", 2}, api.Mul: {"*", 3}, api.Div: {"/", 3}, api.Mod: {"%", 3},
	api.Less: {"<", 1}, api.Most: {"<=", 1}, api.Equal: {"==", 1},
}

// level returns the level of an expression or a pattern.
func level(l api.Leaf) int {
	switch l.Kind {
	case syntax.Let, syntax.If, syntax.Match, syntax.View:
		return 0
	case syntax.Binary:
		return operators[l.Num].level
	case syntax.Apply, syntax.Copy:
		return 4
	case syntax.Build, syntax.PCon:
		if len(l.Kids) > 0 {
			return 4
		}
	case syntax.Num, syntax.PNum:
		if l.Num < 0 {
			return 4
		}
	}
	return 5
}

// atLeast writes an expression or a pattern, in parentheses if it is below a level.
func (w *writer) atLeast(least, leaf, indent int) {
	l := w.tree.Leaves[leaf]
	if level(l) >= least {
		w.plain(l, indent)
		return
	}
	w.WriteString("(")
	w.plain(l, indent+2)
	w.WriteString(")")
}

// plain writes an expression or a pattern.
func (w *writer) plain(l api.Leaf, indent int) {
	switch l.Kind {
	case syntax.Num, syntax.PNum:
		w.WriteString(strconv.FormatInt(l.Num, 10))
	case syntax.PWild:
		w.WriteString("_")
	case syntax.Copy:
		w.apply("copy", l, indent)
	case syntax.Binary:
		w.binary(l, indent)
	case syntax.Let:
		w.let(l, indent)
	case syntax.If:
		w.choice(l, indent)
	case syntax.Match:
		w.match("match", l, indent)
	case syntax.View:
		w.match("view", l, indent)
	default:
		w.apply(l.Text, l, indent)
	}
}

// apply writes a word and the kids of a leaf, perhaps none, as its arguments.
func (w *writer) apply(word string, l api.Leaf, indent int) {
	w.WriteString(word)
	w.each(l.Kids, func(leaf int) { w.atLeast(5, leaf, indent) })
}

func (w *writer) binary(l api.Leaf, indent int) {
	o := operators[l.Num]
	left, right := o.level, o.level+1
	if o.level == 1 { // comparisons do not associate
		left = right
	}
	w.atLeast(left, l.Kids[0], indent)
	w.WriteString(" " + o.text + " ")
	w.atLeast(right, l.Kids[1], indent)
}

func (w *writer) let(l api.Leaf, indent int) {
	w.WriteString("let " + l.Text + " = ")
	w.atLeast(0, l.Kids[0], indent+2)
	w.WriteString(" in")
	w.newLine(indent)
	w.atLeast(0, l.Kids[1], indent)
}

func (w *writer) choice(l api.Leaf, indent int) {
	w.WriteString("if ")
	w.atLeast(0, l.Kids[0], indent)
	w.WriteString(" then")
	w.inner(l.Kids[1], indent)
	w.newLine(indent)
	w.WriteString("else")
	w.inner(l.Kids[2], indent)
}

func (w *writer) match(word string, l api.Leaf, indent int) {
	w.WriteString(word + " ")
	scrutinees, clauses := l.Kids[:l.Num], l.Kids[l.Num:]
	w.list(scrutinees, ", ", func(leaf int) { w.atLeast(0, leaf, indent) })
	w.WriteString(" with")
	for _, clause := range clauses {
		w.newLine(indent)
		w.clause(w.tree.Leaves[clause], indent)
	}
	w.newLine(indent)
	w.WriteString("end")
}

func (w *writer) clause(l api.Leaf, indent int) {
	patterns, result := l.Kids[:len(l.Kids)-1], l.Kids[len(l.Kids)-1]
	w.WriteString("| ")
	w.list(patterns, ", ", func(leaf int) { w.atLeast(0, leaf, indent) })
	w.WriteString(" ->")
	w.inner(result, indent)
}

// inner writes an expression in lines of its own, which are indented further.
func (w *writer) inner(leaf, indent int) {
	w.newLine(indent + 2)
	w.atLeast(0, leaf, indent+2)
}

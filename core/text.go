package core

import (
	"strconv"
	"strings"

	"cellarer/api"
	"cellarer/datas"
)

// prims are the names of the primitive functions in texts.
var prims = [api.Prims]string{"add", "sub", "mul", "div", "mod", "less", "most", "equal"}

// Text returns the text of a program.
func Text(p api.Program) (string, api.Errno) {
	if Check(p) != api.OK {
		return "", api.ErrForm
	}
	w := writer{p: p}
	for _, data := range p.Datas[1:] {
		w.data(data)
	}
	for _, f := range p.Funs {
		w.fun(f)
	}
	if w.out.Len() > api.MaxSource {
		return "", api.ErrLong
	}
	return w.out.String(), api.OK
}

// writer writes the lines of a valid program.
type writer struct {
	out strings.Builder
	p   api.Program
}

// line writes a line. Lines behind the end of the longest text are not written, because deep ones could have very many bytes together.
func (w *writer) line(indent int, words ...string) {
	if w.out.Len() <= api.MaxSource {
		w.out.WriteString(strings.Repeat(" ", indent) + strings.Join(words, " ") + "\n")
	}
}

func (w *writer) data(data api.Data) {
	var cons []string
	for _, c := range data.Cons {
		words := []string{c.Name}
		for _, field := range c.Fields {
			words = append(words, datas.Name(w.p.Datas, field))
		}
		cons = append(cons, strings.Join(words, " "))
	}
	w.line(0, "data", data.Name, "=", strings.Join(cons, " | "))
}

func (w *writer) fun(f api.Fun) {
	var params []string
	for v, param := range f.Vars[:f.Params] {
		text := wordOf(v) + ": " + datas.Name(w.p.Datas, param.Type)
		if param.Read {
			text = "read " + text
		}
		params = append(params, text)
	}
	head := "(" + strings.Join(params, ", ") + "): " + datas.Name(w.p.Datas, f.Result)
	if f.Extern {
		w.line(0, "extern", f.Name+head)
		return
	}
	w.line(0, "fun", f.Name+head)
	w.code(f, f.Body, 2)
}

// code writes a node and all that follow it.
func (w *writer) code(f api.Fun, node, indent int) {
	n := f.Code[node]
	w.line(indent, w.words(f, n)...)
	if n.Op != api.Match {
		for _, kid := range Kids(n) {
			w.code(f, kid, indent)
		}
		return
	}
	for i, b := range n.Branches {
		con := w.con(f.Vars[n.Args[0]].Type, i)
		w.line(indent, append([]string{"|", con}, wordsOf(b.Binds)...)...)
		w.code(f, b.Then, indent+2)
	}
}

// words returns the words of the line of a node.
func (w *writer) words(f api.Fun, n api.Node) []string {
	args := wordsOf(n.Args)
	switch n.Op {
	case api.Ret:
		return append([]string{"ret"}, args...)
	case api.Drop:
		return append([]string{"drop"}, args...)
	case api.Tail:
		return append([]string{"tail", w.p.Funs[n.Fun].Name}, args...)
	case api.Hole:
		head := append([]string{"hole", w.con(f.Result, n.Con)}, args...)
		return append(append(head, ":", w.p.Funs[n.Fun].Name), wordsOf(n.More)...)
	case api.Match:
		if n.Take {
			return append([]string{"take"}, args...)
		}
		return append([]string{"read"}, args...)
	}
	return append(append([]string{wordOf(n.Var), "="}, w.operation(f, n)...), args...)
}

// operation returns the words between the = and the arguments of a node that binds a variable.
func (w *writer) operation(f api.Fun, n api.Node) []string {
	switch n.Op {
	case api.Num:
		return []string{strconv.FormatInt(n.Num, 10)}
	case api.Prim:
		return []string{prims[n.Num]}
	case api.Make:
		return []string{w.con(f.Vars[n.Var].Type, n.Con)}
	case api.Copy:
		return []string{"copy"}
	}
	return []string{"call", w.p.Funs[n.Fun].Name}
}

// con returns the name of a constructor.
func (w *writer) con(t api.Type, con int) string {
	return w.p.Datas[t-1].Cons[con].Name
}

// wordsOf returns the words of variables and of the hole.
func wordsOf(vars []int) []string {
	var words []string
	for _, v := range vars {
		words = append(words, wordOf(v))
	}
	return words
}

func wordOf(v int) string {
	if v == -1 {
		return "_"
	}
	return "v" + strconv.Itoa(v)
}

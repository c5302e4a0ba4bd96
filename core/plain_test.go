package core

import (
	"regexp"
	"strconv"
	"strings"

	"cellarer/api"
	"cellarer/datas"
)

// Patterns of words.
const (
	upperWord = `[A-Z][A-Za-z0-9_]{0,31}`
	lowerWord = `[a-z][A-Za-z0-9_]{0,31}`
	funWord   = lowerWord + `(?:\.` + lowerWord + `)?`
	varWord   = `v(?:[0-9]|[1-9][0-9]|[1-4][0-9][0-9]|50[0-9]|51[01])`
	varWords  = `((?: ` + varWord + `)*)`
)

var plainFunName = regexp.MustCompile(`^` + funWord + `$`)

// The forms of lines without their indentation. A group is a name, a variable, a list of variables, or a number.
var (
	dataLine   = regexp.MustCompile(`^data (` + upperWord + `) = (` + upperWord + `(?: ` + upperWord + `| \| ` + upperWord + `)*)$`)
	funLine    = regexp.MustCompile(`^(fun|extern) (` + funWord + `)\(((?:(?:read )?` + varWord + `: ` + upperWord + `(?:, (?:read )?` + varWord + `: ` + upperWord + `)*)?)\): (` + upperWord + `)$`)
	branchLine = regexp.MustCompile(`^\| (` + upperWord + `)` + varWords + `$`)
	nodeLines  = [...]*regexp.Regexp{
		api.Ret:   regexp.MustCompile(`^ret (` + varWord + `)$`),
		api.Num:   regexp.MustCompile(`^(` + varWord + `) = (0|-?[1-9][0-9]*)$`),
		api.Prim:  regexp.MustCompile(`^(` + varWord + `) = (add|sub|mul|div|mod|less|most|equal)( ` + varWord + ` ` + varWord + `)$`),
		api.Make:  regexp.MustCompile(`^(` + varWord + `) = (` + upperWord + `)` + varWords + `$`),
		api.Copy:  regexp.MustCompile(`^(` + varWord + `) = copy (` + varWord + `)$`),
		api.Drop:  regexp.MustCompile(`^drop (` + varWord + `)$`),
		api.Call:  regexp.MustCompile(`^(` + varWord + `) = call (` + funWord + `)` + varWords + `$`),
		api.Tail:  regexp.MustCompile(`^tail (` + funWord + `)` + varWords + `$`),
		api.Hole:  regexp.MustCompile(`^hole (` + upperWord + `)` + varWords + ` _` + varWords + ` : (` + funWord + `)` + varWords + `$`),
		api.Match: regexp.MustCompile(`^(take|read) (` + varWord + `)$`),
	}
	anyVar = regexp.MustCompile(`\bv[0-9]+\b`)
)

// plainLine is a line of a text, with what its form's groups are.
type plainLine struct {
	at     int
	kind   string // data, fun, branch or node
	op     int
	groups []string
	opens  int // the index of the line of the Match that a branch belongs to
}

// plainSyntax returns the lines of a text, or the offset of the first one that cannot stand there.
func plainSyntax(s string) ([]plainLine, int) {
	var lines []plainLine
	type open struct{ line, indent int } // a Match whose branches may go on
	var stack []open
	due, indent := "", 0 // what must follow: node, branch, or nothing
	at := 0
	for _, text := range strings.SplitAfter(s, "\n") {
		if text == "" {
			break
		}
		body, ended := strings.CutSuffix(text, "\n")
		if !ended {
			return nil, at
		}
		for due == "" && len(stack) > 0 {
			top := stack[len(stack)-1]
			if strings.HasPrefix(body, strings.Repeat(" ", top.indent)+"|") {
				due, indent = "branch", top.indent
			} else {
				stack = stack[:len(stack)-1]
			}
		}
		rest, ok := strings.CutPrefix(body, strings.Repeat(" ", indent))
		if !ok {
			return nil, at
		}
		line := plainForms(rest, due, len(lines) > 0 && lines[len(lines)-1].kind != "data")
		if line.kind == "" {
			return nil, at
		}
		line.at = at
		at += len(text)
		switch {
		case line.kind == "fun" && line.groups[1] == "fun":
			due, indent = "node", 2
		case line.kind == "branch":
			line.opens = stack[len(stack)-1].line
			due, indent = "node", indent+2
		case line.op == api.Match && line.kind == "node":
			stack = append(stack, open{len(lines), indent})
			due = "branch"
		case line.kind == "node" && (line.op == api.Ret || line.op == api.Tail || line.op == api.Hole):
			due, indent = "", 0
		}
		lines = append(lines, line)
	}
	if due != "" {
		return nil, at
	}
	return lines, -1
}

// plainForms returns what a line is, where something is due, or nothing is. Its kind is empty if it is not right.
func plainForms(text, due string, afterFun bool) plainLine {
	switch due {
	case "node":
		for op, form := range nodeLines {
			groups := form.FindStringSubmatch(text)
			if groups == nil {
				continue
			}
			if _, err := strconv.ParseInt(groups[len(groups)-1], 10, 64); op == api.Num && err != nil {
				continue
			}
			return plainLine{kind: "node", op: op, groups: groups}
		}
		return plainLine{}
	case "branch":
		if groups := branchLine.FindStringSubmatch(text); groups != nil {
			return plainLine{kind: "branch", groups: groups}
		}
		return plainLine{}
	}
	if groups := dataLine.FindStringSubmatch(text); groups != nil && groups[1] != "Int" && !afterFun {
		return plainLine{kind: "data", groups: groups}
	}
	if groups := funLine.FindStringSubmatch(text); groups != nil {
		for number, v := range anyVar.FindAllString(groups[3], -1) {
			if v != "v"+strconv.Itoa(number) {
				return plainLine{}
			}
		}
		return plainLine{kind: "fun", groups: groups}
	}
	return plainLine{}
}

// plainNames are the names that the lines of a text declare.
type plainNames struct {
	types   map[string]api.Type
	cons    map[string]api.Place
	funs    map[string]int
	results []string // the names of the types of the results
}

func namesOf(lines []plainLine) plainNames {
	n := plainNames{types: map[string]api.Type{"Int": 0, "Bool": 1}, cons: map[string]api.Place{"False": {Type: 1}, "True": {Type: 1, Con: 1}}, funs: map[string]int{}}
	count := api.Type(1)
	for _, line := range lines {
		switch line.kind {
		case "data":
			count++
			if _, ok := n.types[line.groups[1]]; !ok {
				n.types[line.groups[1]] = count
			}
			for con, text := range strings.Split(line.groups[2], " | ") {
				name := strings.Fields(text)[0]
				if _, ok := n.cons[name]; !ok {
					n.cons[name] = api.Place{Type: count, Con: con}
				}
			}
		case "fun":
			if _, ok := n.funs[line.groups[2]]; !ok {
				n.funs[line.groups[2]] = len(n.results)
			}
			n.results = append(n.results, line.groups[4])
		}
	}
	return n
}

// plainMissing reports whether a line names something that does not exist, or takes, reads or copies a variable that no earlier line of its function has.
func plainMissing(lines []plainLine, i int, n plainNames) bool {
	line := lines[i]
	var types, cons, funs, vars []string
	g := line.groups
	switch line.kind {
	case "data":
		for text := range strings.SplitSeq(g[2], " | ") {
			types = append(types, strings.Fields(text)[1:]...)
		}
	case "fun":
		types = append(types, g[4])
		for _, word := range strings.FieldsFunc(g[3], func(r rune) bool { return r == ' ' || r == ',' }) {
			if word[0] >= 'A' && word[0] <= 'Z' {
				types = append(types, word)
			}
		}
	case "branch":
		cons = append(cons, g[1])
	case "node":
		switch line.op {
		case api.Make:
			cons = append(cons, g[2])
		case api.Copy, api.Match:
			vars = append(vars, g[2])
		case api.Call:
			funs = append(funs, g[2])
		case api.Tail:
			funs = append(funs, g[1])
		case api.Hole:
			cons, funs = append(cons, g[1]), append(funs, g[4])
		}
	}
	missing := false
	for _, name := range types {
		_, ok := n.types[name]
		missing = missing || !ok
	}
	for _, name := range cons {
		_, ok := n.cons[name]
		missing = missing || !ok
	}
	for _, name := range funs {
		_, ok := n.funs[name]
		missing = missing || !ok
	}
	for _, v := range vars {
		missing = missing || !isEarlier(lines, i, v)
	}
	return missing
}

// isEarlier reports whether a variable is a parameter of the function of a line, or is bound by a line of it before this one.
func isEarlier(lines []plainLine, i int, v string) bool {
	for i--; i >= 0; i-- {
		line := lines[i]
		bound := ""
		switch {
		case line.kind == "fun":
			return strings.Contains(" "+line.groups[3], " "+v+":")
		case line.kind == "branch":
			bound = line.groups[2]
		case line.op == api.Num || line.op == api.Prim || line.op == api.Make || line.op == api.Copy || line.op == api.Call:
			bound = line.groups[1]
		}
		if strings.Contains(" "+bound+" ", " "+v+" ") {
			return true
		}
	}
	return false
}

// plainParse returns what Parse should return.
func plainParse(s string) (api.Program, int, api.Errno) {
	if len(s) > 65536 {
		return api.Program{}, 0, api.ErrLong
	}
	lines, at := plainSyntax(s)
	if at >= 0 {
		return api.Program{}, at, api.ErrSyntax
	}
	n := namesOf(lines)
	for i, line := range lines {
		if plainMissing(lines, i, n) {
			return api.Program{}, line.at, api.ErrNone
		}
	}
	p := plainProgram(lines, n)
	if e := plainCheck(p); e != api.OK {
		return api.Program{}, 0, e
	}
	if !plainConstructors(p, lines, n) {
		return api.Program{}, 0, api.ErrType
	}
	return p, 0, api.OK
}

// number returns the number of a variable.
func number(v string) int {
	n, err := strconv.Atoi(strings.TrimPrefix(strings.TrimSpace(v), "v"))
	if err != nil {
		panic(v)
	}
	return n
}

func numbers(list string) []int {
	var out []int
	for _, v := range strings.Fields(list) {
		out = append(out, number(v))
	}
	return out
}

// plainProgram returns the program of lines, all of whose names exist.
func plainProgram(lines []plainLine, n plainNames) api.Program {
	p := api.Program{Datas: []api.Data{{Name: "Bool", Cons: []api.Con{{Name: "False"}, {Name: "True"}}}}}
	for i := 0; i < len(lines); {
		g := lines[i].groups
		if lines[i].kind == "data" {
			data := api.Data{Name: g[1]}
			for text := range strings.SplitSeq(g[2], " | ") {
				words := strings.Fields(text)
				c := api.Con{Name: words[0]}
				for _, word := range words[1:] {
					c.Fields = append(c.Fields, n.types[word])
				}
				data.Cons = append(data.Cons, c)
			}
			p.Datas = append(p.Datas, data)
			i++
			continue
		}
		last := i + 1
		for last < len(lines) && lines[last].kind != "fun" {
			last++
		}
		p.Funs = append(p.Funs, plainFun(p.Datas, lines, i, last, n))
		i = last
	}
	return p
}

// plainFun returns the function of the lines from one to another one.
func plainFun(d []api.Data, lines []plainLine, from, to int, n plainNames) api.Fun {
	g := lines[from].groups
	f := api.Fun{Name: g[2], Result: n.types[g[4]], Extern: g[1] == "extern"}
	set := func(v int, t api.Type, read bool) {
		for len(f.Vars) <= v {
			f.Vars = append(f.Vars, api.Var{})
		}
		f.Vars[v] = api.Var{Type: t, Read: read}
	}
	if g[3] != "" {
		for i, param := range strings.Split(g[3], ", ") {
			_, t, _ := strings.Cut(param, ": ")
			set(i, n.types[t], strings.HasPrefix(param, "read "))
			f.Params++
		}
	}
	nodes := map[int]int{} // the node of a line
	for i := from + 1; i < to; i++ {
		line := lines[i]
		if line.kind == "branch" {
			match := nodes[line.opens]
			place, binds := n.cons[line.groups[1]], numbers(line.groups[2])
			for field, v := range binds {
				t := api.Type(0)
				if fields := d[place.Type-1].Cons[place.Con].Fields; field < len(fields) {
					t = fields[field]
				}
				set(v, t, !f.Code[match].Take && !datas.Flat(d, t))
			}
			f.Code[match].Branches = append(f.Code[match].Branches, api.Branch{Binds: binds, Then: len(f.Code)})
			continue
		}
		nodes[i] = len(f.Code)
		node, t := plainNodeOf(f, line, n)
		if len(plainKids(node)) > 0 {
			node.Next = len(f.Code) + 1
		}
		f.Code = append(f.Code, node)
		if t >= 0 {
			set(node.Var, t, false)
		}
	}
	return f
}

// plainNodeOf returns the node of a line, without its kids, and the type of the variable that it binds, or -1.
func plainNodeOf(f api.Fun, line plainLine, n plainNames) (api.Node, api.Type) {
	g := line.groups
	node := api.Node{Op: line.op}
	switch line.op {
	case api.Ret, api.Drop:
		node.Args = numbers(g[1])
		return node, -1
	case api.Match:
		node.Take, node.Args = g[1] == "take", numbers(g[2])
		return node, -1
	case api.Tail:
		node.Fun, node.Args = n.funs[g[1]], numbers(g[2])
		return node, -1
	case api.Hole:
		node.Con, node.Fun, node.More = n.cons[g[1]].Con, n.funs[g[4]], numbers(g[5])
		node.Num = int64(len(numbers(g[2])))
		node.Args = append(append(numbers(g[2]), -1), numbers(g[3])...)
		return node, -1
	}
	node.Var = number(g[1])
	switch line.op {
	case api.Num:
		node.Num, _ = strconv.ParseInt(g[2], 10, 64)
		return node, api.Int
	case api.Prim:
		node.Num, node.Args = map[string]int64{"add": 0, "sub": 1, "mul": 2, "div": 3, "mod": 4, "less": 5, "most": 6, "equal": 7}[g[2]], numbers(g[3])
		return node, api.Type(node.Num / 5)
	case api.Make:
		node.Con, node.Args = n.cons[g[2]].Con, numbers(g[3])
		return node, n.cons[g[2]].Type
	case api.Copy:
		node.Args = numbers(g[2])
		return node, f.Vars[node.Args[0]].Type
	}
	node.Fun, node.Args = n.funs[g[2]], numbers(g[3])
	return node, n.types[n.results[node.Fun]]
}

// plainConstructors reports whether the lines of branches and holes name the right constructors.
func plainConstructors(p api.Program, lines []plainLine, n plainNames) bool {
	fun := -1
	var f api.Fun
	branches := map[int]int{} // how many branches of a Match there were
	for _, line := range lines {
		switch {
		case line.kind == "fun":
			fun++
			f = p.Funs[fun]
		case line.kind == "branch":
			t := f.Vars[number(lines[line.opens].groups[2])].Type
			if n.cons[line.groups[1]] != (api.Place{Type: t, Con: branches[line.opens]}) {
				return false
			}
			branches[line.opens]++
		case line.kind == "node" && line.op == api.Hole:
			if n.cons[line.groups[1]].Type != f.Result {
				return false
			}
		}
	}
	return true
}

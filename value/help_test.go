package value

import (
	"fmt"
	"math"
	"math/rand"
	"regexp"
	"slices"
	"strconv"
	"strings"
	"testing"

	"cellarer/api"
)

// The types of the table of mixed, and its constructors.
const (
	listType  = 2
	treeType  = 3
	colorType = 4
	boxType   = 5
	pairType  = 6
	chainType = 7
)

// mixed returns a table with types of all kinds: flat ones, recursive ones, and ones whose values all have cells.
func mixed() []api.Data {
	return table("List = Nil | Cons Int List", "Tree = Leaf Int | Node Tree List Tree | None", "Color = Red | Green | Blue", "Box = Box Int", "Pair = Pair Box Color Int Bool Pair2 Box | Other", "Chain = End | Link Chain", "Pair2 = P2 Box Box")
}

// table returns the table of Bool and lines like List = Nil | Cons Int List. Nothing is checked.
func table(lines ...string) []api.Data {
	lines = slices.Concat([]string{"Bool = False | True"}, lines)
	types := map[string]api.Type{"Int": api.Int}
	for i, line := range lines {
		types[strings.Fields(line)[0]] = api.Type(i + 1)
	}
	var d []api.Data
	for _, line := range lines {
		name, cons, _ := strings.Cut(line, " = ")
		data := api.Data{Name: name}
		for con := range strings.SplitSeq(cons, " | ") {
			words := strings.Fields(con)
			c := api.Con{Name: words[0]}
			for _, word := range words[1:] {
				t, ok := types[word]
				if n, err := strconv.Atoi(word); !ok && err == nil {
					t = api.Type(n)
				} else if !ok {
					panic(word)
				}
				c.Fields = append(c.Fields, t)
			}
			data.Cons = append(data.Cons, c)
		}
		d = append(d, data)
	}
	return d
}

// rejected are tables that datas.Check rejects.
func rejected() [][]api.Data {
	return [][]api.Data{nil, {}, {{}}, mixed()[1:], table("List = nil"), table("A = A", "A = B"), table("Int = A"), table("A = True"), table("A = A 3"), table("A = A -1"), table("A = A A"), table("A = A" + strings.Repeat(" Int", 7)), append(mixed(), api.Data{Name: "Empty"})}
}

// read returns the value of a text like Cons 1 (Cons 2 Nil), or of one of these with a number for the index of a constructor: #1 (#5 7) #0. Nothing is checked.
func read(d []api.Data, text string) api.Value {
	words := strings.Fields(strings.NewReplacer("(", " ( ", ")", " ) ").Replace(text))
	var term func() api.Value
	head := func() (api.Value, bool) {
		word := words[0]
		words = words[1:]
		if n, err := strconv.ParseInt(word, 10, 64); err == nil {
			return api.Value{Num: n}, false
		}
		if word[0] == '#' {
			con, _ := strconv.Atoi(word[1:])
			return api.Value{Con: con}, true
		}
		for _, data := range d {
			for con, c := range data.Cons {
				if c.Name == word {
					return api.Value{Con: con}, true
				}
			}
		}
		panic(word)
	}
	term = func() api.Value {
		v, isCon := head()
		for isCon && len(words) > 0 && words[0] != ")" {
			if words[0] != "(" {
				arg, _ := head()
				v.Args = append(v.Args, arg)
				continue
			}
			words = words[1:]
			v.Args = append(v.Args, term())
			words = words[1:]
		}
		return v
	}
	return term()
}

// part is a part of a value, with the type that it should have.
type part struct {
	t api.Type
	v api.Value
}

// plainParts returns the parts of a value in preorder, and the error of the first one that is wrong, where the list ends. It has no more parts than there may be in a value with 1<<16 cells.
func plainParts(d []api.Data, t api.Type, v api.Value) ([]part, api.Errno) {
	var done []part
	left := []part{{t, v}} // the next one at the end
	cells := 0
	for len(left) > 0 {
		p := left[len(left)-1]
		left = left[:len(left)-1]
		if p.t == 0 {
			if p.v.Con != 0 || len(p.v.Args) > 0 {
				return done, api.ErrType
			}
			done = append(done, p)
			continue
		}
		cons := d[p.t-1].Cons
		if p.v.Num != 0 || p.v.Con < 0 || p.v.Con >= len(cons) || len(p.v.Args) != len(cons[p.v.Con].Fields) {
			return done, api.ErrType
		}
		if len(p.v.Args) > 0 {
			cells++
		}
		if cells == 1<<16+1 {
			return done, api.ErrCells
		}
		done = append(done, p)
		for i := len(p.v.Args) - 1; i >= 0; i-- {
			left = append(left, part{cons[p.v.Con].Fields[i], p.v.Args[i]})
		}
	}
	return done, api.OK
}

// plainText returns the text of a valid value.
func plainText(d []api.Data, t api.Type, v api.Value) string {
	if t == 0 {
		return strconv.FormatInt(v.Num, 10)
	}
	c := d[t-1].Cons[v.Con]
	out := c.Name
	for i, field := range c.Fields {
		text := plainText(d, field, v.Args[i])
		if strings.ContainsAny(text, " -") {
			text = "(" + text + ")"
		}
		out += " " + text
	}
	return out
}

// plainCounts counts the parts of a valid value at the places of the shape of its type.
func plainCounts(d []api.Data, t api.Type, v api.Value) []int {
	var contents []api.Type
	var collect func(t api.Type)
	collect = func(t api.Type) {
		isFlat := t == 0 || !slices.ContainsFunc(d[t-1].Cons, func(c api.Con) bool { return len(c.Fields) > 0 })
		if isFlat || slices.Contains(contents, t) {
			return
		}
		contents = append(contents, t)
		for _, c := range d[t-1].Cons {
			for _, field := range c.Fields {
				collect(field)
			}
		}
	}
	collect(t)
	parts, _ := plainParts(d, t, v)
	var counts []int
	for _, t := range contents {
		for con := range d[t-1].Cons {
			count := 0
			for _, p := range parts {
				if p.t == t && p.v.Con == con {
					count++
				}
			}
			counts = append(counts, count)
		}
	}
	return counts
}

func plainCells(parts []part) int {
	cells := 0
	for _, p := range parts {
		if len(p.v.Args) > 0 {
			cells++
		}
	}
	return cells
}

// brief returns a value for a message, for which it may be too long.
func brief(v any) string {
	text := fmt.Sprint(v)
	return text[:min(len(text), 500)]
}

// checkAll compares what the functions of values return with plain functions. A valid value must not have too many cells.
func checkAll(t *testing.T, d []api.Data, of api.Type, v api.Value) {
	t.Helper()
	parts, e := plainParts(d, of, v)
	if e != api.OK {
		checkErrors(t, d, of, v, e)
		return
	}
	text := plainText(d, of, v)
	checkResults(t, d, of, v, plainCells(parts), plainCounts(d, of, v), text, api.OK)
	checkParse(t, d, of, text, v, api.OK)
}

// checkErrors checks that all functions of values return an error.
func checkErrors(t *testing.T, d []api.Data, of api.Type, v api.Value, want api.Errno) {
	t.Helper()
	if got := Check(d, of, v); got != want {
		t.Fatalf("Check(%s, %d, %s) is %d, want %d", brief(d), of, brief(v), got, want)
	}
	if cells, e := Cells(d, of, v); cells != 0 || e != want {
		t.Fatalf("Cells(%s, %d, %s) is %d, %d, want %d", brief(d), of, brief(v), cells, e, want)
	}
	if counts, e := Counts(d, of, v); len(counts) > 0 || e != want {
		t.Fatalf("Counts(%s, %d, %s) is %v, %d, want %d", brief(d), of, brief(v), counts, e, want)
	}
	if text, e := Text(d, of, v); text != "" || e != want {
		t.Fatalf("Text(%s, %d, %s) is %q, %d, want %d", brief(d), of, brief(v), brief(text), e, want)
	}
}

// checkResults checks what all functions of a value return that Check accepts.
func checkResults(t *testing.T, d []api.Data, of api.Type, v api.Value, cells int, counts []int, text string, textError api.Errno) {
	t.Helper()
	if e := Check(d, of, v); e != api.OK {
		t.Fatalf("Check(%s, %d, %s) is %d", brief(d), of, brief(v), e)
	}
	if got, e := Cells(d, of, v); got != cells || e != api.OK {
		t.Fatalf("Cells(%s, %d, %s) is %d, %d, want %d", brief(d), of, brief(v), got, e, cells)
	}
	if got, e := Counts(d, of, v); !slices.Equal(got, counts) || e != api.OK {
		t.Fatalf("Counts(%s, %d, %s) is %v, %d, want %v", brief(d), of, brief(v), got, e, counts)
	}
	if got, e := Text(d, of, v); got != text || e != textError {
		t.Fatalf("Text(%s, %d, %s) is %q, %d, want %q, %d", brief(d), of, brief(v), brief(got), e, brief(text), textError)
	}
}

func checkParse(t *testing.T, d []api.Data, of api.Type, text string, want api.Value, wantError api.Errno) {
	t.Helper()
	if got, e := Parse(d, of, text); !plainSame(got, want) || e != wantError {
		t.Fatalf("Parse(%s, %d, %q) is %s, %d, want %s, %d", brief(d), of, brief(text), brief(got), e, brief(want), wantError)
	}
}

func checkSame(t *testing.T, a, b api.Value, want bool) {
	t.Helper()
	if got := Same(a, b); got != want {
		t.Fatalf("Same(%s, %s) is %v", brief(a), brief(b), got)
	}
}

// plainSame compares values that are not very deep.
func plainSame(a, b api.Value) bool {
	return a.Num == b.Num && a.Con == b.Con && slices.EqualFunc(a.Args, b.Args, plainSame)
}

// fresh returns a copy of a value that shares no memory with it.
func fresh(v api.Value) api.Value {
	v.Args = slices.Clone(v.Args)
	for i := range v.Args {
		v.Args[i] = fresh(v.Args[i])
	}
	return v
}

var plainTokens = regexp.MustCompile(`^(?:[A-Z][A-Za-z0-9_]*|-?[0-9]+|[()]| )`)

// plainScan returns the tokens of a text that is written freely, and whether it is.
func plainScan(text string) ([]string, bool) {
	isWord := func(token string) bool { return !strings.Contains(" ()", token) }
	tokens := []string{" "}
	kinds := "" // a letter for each token but the spaces
	for text != "" {
		token := plainTokens.FindString(text)
		if token == "" || isWord(token) && isWord(tokens[len(tokens)-1]) {
			return nil, false
		}
		text = text[len(token):]
		tokens = append(tokens, token)
		switch {
		case !isWord(token):
			kinds += strings.TrimSpace(token)
		case token[0] >= 'A':
			kinds += "N"
		default:
			// A number of more digits than Int has in any case must begin with zeros.
			if _, err := strconv.ParseInt(token, 10, 64); err != nil {
				return nil, false
			}
			kinds += "n"
		}
	}
	// An a stands for an arg in parentheses. The innermost ones are made first.
	for inner := regexp.MustCompile(`\((?:n|N[nNa]*)\)`); inner.MatchString(kinds); {
		kinds = inner.ReplaceAllString(kinds, "a")
	}
	tokens = slices.DeleteFunc(tokens, func(token string) bool { return token == " " })
	return tokens, regexp.MustCompile(`^(?:n|N[nNa]*)$`).MatchString(kinds)
}

// plainParse returns what Parse should return for a valid table that has the type, and a text that is not too long.
func plainParse(d []api.Data, t api.Type, text string) (api.Value, api.Errno) {
	tokens, ok := plainScan(text)
	if !ok {
		return api.Value{}, api.ErrSyntax
	}
	names := map[string]bool{}
	for _, data := range d {
		for _, c := range data.Cons {
			names[c.Name] = true
		}
	}
	for _, token := range tokens {
		if token[0] >= 'A' && !names[token] {
			return api.Value{}, api.ErrNone
		}
	}
	v, tokens, ok := plainTerm(d, t, tokens)
	if !ok || len(tokens) > 0 {
		return api.Value{}, api.ErrType
	}
	return v, api.OK
}

// plainTerm reads a term of a type, and returns its value, the tokens that follow, and whether it has the type.
func plainTerm(d []api.Data, t api.Type, tokens []string) (api.Value, []string, bool) {
	if t == 0 {
		n, err := strconv.ParseInt(tokens[0], 10, 64)
		return api.Value{Num: n}, tokens[1:], err == nil
	}
	con := slices.IndexFunc(d[t-1].Cons, func(c api.Con) bool { return c.Name == tokens[0] })
	if con < 0 {
		return api.Value{}, nil, false
	}
	v := api.Value{Con: con}
	tokens = tokens[1:]
	for _, field := range d[t-1].Cons[con].Fields {
		if len(tokens) == 0 || tokens[0] == ")" {
			return api.Value{}, nil, false
		}
		var arg api.Value
		ok := true
		if tokens[0] == "(" {
			arg, tokens, ok = plainTerm(d, field, tokens[1:])
			if !ok || tokens[0] != ")" {
				return api.Value{}, nil, false
			}
			tokens = tokens[1:]
		} else if field != 0 && len(d[field-1].Cons) > 0 && slices.ContainsFunc(d[field-1].Cons, func(c api.Con) bool { return c.Name == tokens[0] && len(c.Fields) > 0 }) {
			return api.Value{}, nil, false
		} else if arg, tokens, ok = plainTerm(d, field, tokens); !ok {
			return api.Value{}, nil, false
		}
		v.Args = append(v.Args, arg)
	}
	return v, tokens, true
}

// drawn makes values and texts.
type drawn struct{ *rand.Rand }

func newDrawn(seed int64) drawn {
	return drawn{rand.New(rand.NewSource(seed))}
}

var someInts = []int64{math.MinInt64, math.MinInt64 + 1, -1 << 32, -10, -1, 0, 1, 9, 10, 1 << 32, math.MaxInt64 - 1, math.MaxInt64}

// value returns a value of a type of mixed, in which constructors are nested only up to a depth as far as that is possible.
func (r drawn) value(d []api.Data, t api.Type, depth int) api.Value {
	if t == 0 {
		return api.Value{Num: someInts[r.Intn(len(someInts))]}
	}
	cons := d[t-1].Cons
	con := r.Intn(len(cons))
	if depth <= 0 {
		// The first or the last constructor of each type of mixed leads to finite values.
		con = 0
		if last := len(cons) - 1; len(cons[last].Fields) == 0 {
			con = last
		}
	}
	v := api.Value{Con: con}
	for _, field := range cons[con].Fields {
		v.Args = append(v.Args, r.value(d, field, depth-1))
	}
	return v
}

// disturbed returns a value that is changed at one part.
func (r drawn) disturbed(v api.Value) api.Value {
	v = fresh(v)
	at := &v
	for len(at.Args) > 0 && r.Intn(4) > 0 {
		at = &at.Args[r.Intn(len(at.Args))]
	}
	other := api.Value{Num: int64(r.Intn(3) - 1)}
	switch r.Intn(6) {
	case 0:
		at.Num += int64(r.Intn(3) - 1)
	case 1:
		at.Con = []int{math.MinInt, -1, 0, 1, 2, 3, 1 << 32, math.MaxInt}[r.Intn(8)]
	case 2:
		at.Args = append(at.Args, other)
	case 3:
		at.Args = at.Args[:r.Intn(len(at.Args)+1)]
	case 4:
		at.Args = slices.Repeat([]api.Value{other}, r.Intn(4))
	case 5:
		r.Shuffle(len(at.Args), func(i, j int) { at.Args[i], at.Args[j] = at.Args[j], at.Args[i] })
	}
	return v
}

// free returns a text of a value of a type that is written freely.
func (r drawn) free(d []api.Data, t api.Type, v api.Value) string {
	spaces := func(least int) string { return strings.Repeat(" ", least+r.Intn(2)*r.Intn(4)) }
	if t == 0 {
		sign, digits := "", strings.TrimPrefix(strconv.FormatInt(v.Num, 10), "-")
		if v.Num < 0 || v.Num == 0 && r.Intn(4) == 0 {
			sign = "-"
		}
		return sign + strings.Repeat("0", r.Intn(2)*r.Intn(30)) + digits
	}
	c := d[t-1].Cons[v.Con]
	out := c.Name
	for i, field := range c.Fields {
		text := r.free(d, field, v.Args[i])
		if len(v.Args[i].Args) > 0 || r.Intn(3) == 0 {
			text = "(" + spaces(0) + text + spaces(0) + ")"
		}
		least := 1
		if text[0] == '(' || out[len(out)-1] == ')' {
			least = 0
		}
		out += spaces(least) + text
	}
	return out
}

package value

import (
	"slices"
	"strconv"
	"strings"

	"cellarer/api"
	"cellarer/datas"
	"cellarer/names"
)

// Text returns the text of a value.
func Text(d []api.Data, t api.Type, v api.Value) (string, api.Errno) {
	if e := Check(d, t, v); e != api.OK {
		return "", e
	}
	var out strings.Builder
	var write func(t api.Type, v api.Value)
	write = func(t api.Type, v api.Value) {
		if t == api.Int {
			out.WriteString(strconv.FormatInt(v.Num, 10))
			return
		}
		out.WriteString(d[t-1].Cons[v.Con].Name)
		for i, field := range fieldsOf(d, t, v.Con) {
			opening, closing := " ", ""
			if arg := v.Args[i]; arg.Num < 0 || len(arg.Args) > 0 {
				opening, closing = " (", ")"
			}
			out.WriteString(opening)
			write(field, v.Args[i])
			out.WriteString(closing)
		}
	}
	write(t, v)
	if out.Len() > api.MaxSource {
		return "", api.ErrLong
	}
	return out.String(), api.OK
}

// Parse returns the value of a type with a text, which is written freely.
func Parse(d []api.Data, t api.Type, s string) (api.Value, api.Errno) {
	if e := checkType(d, t); e != api.OK {
		return api.Value{}, e
	}
	if len(s) > api.MaxSource {
		return api.Value{}, api.ErrLong
	}
	r := reader{words: wordsOf(s), find: func(name string) (constructor, bool) {
		t, con, ok := datas.Con(d, name)
		return constructor{t, con, fieldsOf(d, t, con)}, ok
	}}
	v, found, ok := r.term()
	switch {
	case !ok || len(r.words) > 0:
		return api.Value{}, api.ErrSyntax
	case r.hasUnknown:
		return api.Value{}, api.ErrNone
	case r.hasWrongArgs || found != t:
		return api.Value{}, api.ErrType
	}
	return v, api.OK
}

// wordsOf returns the words of a text: Names, numbers and parentheses, or something else, which is not written freely. A Name or a number directly behind another one makes a word of this last kind.
func wordsOf(s string) []string {
	s = strings.ReplaceAll(strings.ReplaceAll(s, "(", " ( "), ")", " ) ")
	return strings.FieldsFunc(s, func(r rune) bool { return r == ' ' })
}

// constructor is a constructor with its type, and with the types of its fields.
type constructor struct {
	t      api.Type
	con    int
	fields []api.Type
}

// reader reads terms whatever their types are. The results of its methods for terms are a value, the type that its constructor has, and whether it is written freely.
type reader struct {
	words        []string // those that are not read yet
	find         func(name string) (constructor, bool)
	hasUnknown   bool // whether there was a Name that is not found
	hasWrongArgs bool // whether there was a constructor with args that its fields do not have
}

// take takes the next word, which is empty if there is none.
func (r *reader) take() string {
	if len(r.words) == 0 {
		return ""
	}
	word := r.words[0]
	r.words = r.words[1:]
	return word
}

func (r *reader) term() (api.Value, api.Type, bool) {
	word := r.take()
	if !names.LongUpper(word) {
		return number(word)
	}
	var args []api.Value
	var types []api.Type
	for len(r.words) > 0 && r.words[0] != ")" {
		arg, t, ok := r.arg()
		if !ok {
			return api.Value{}, 0, false
		}
		args, types = append(args, arg), append(types, t)
	}
	return r.build(word, args, types)
}

func (r *reader) arg() (api.Value, api.Type, bool) {
	word := r.take()
	if names.LongUpper(word) {
		return r.build(word, nil, nil)
	}
	if word != "(" {
		return number(word)
	}
	v, t, ok := r.term()
	return v, t, r.take() == ")" && ok
}

// build makes a value of a constructor and args of some types.
func (r *reader) build(name string, args []api.Value, types []api.Type) (api.Value, api.Type, bool) {
	c, ok := r.find(name)
	if !ok {
		r.hasUnknown = true
	} else if !slices.Equal(types, c.fields) {
		r.hasWrongArgs = true
	}
	return api.Value{Con: c.con, Args: args}, c.t, true
}

// number returns the value of a word that is a number.
func number(word string) (api.Value, api.Type, bool) {
	n, err := strconv.ParseInt(word, 10, 64)
	if err != nil || word[0] == '+' {
		return api.Value{}, 0, false
	}
	return api.Value{Num: n}, api.Int, true
}

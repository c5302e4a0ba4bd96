package syntax

import (
	"math"

	"cellarer/api"
	"cellarer/names"
	"cellarer/token"
)

// What the Text of a leaf is.
const (
	none  = 0
	lower = 1 // a name
	upper = 2 // a Name
)

// What the Num of a leaf is.
const (
	zero      = 0
	number    = 1 // any number
	flag      = 2 // 0 or 1
	operation = 3 // an operation of api
	count     = 4 // the number of scrutinees
)

// Sets of kinds, with a bit for each kind.
const (
	expressions = 1<<Name | 1<<Num | 1<<Apply | 1<<Build | 1<<Binary | 1<<Let | 1<<If | 1<<Match | 1<<View | 1<<Copy
	patterns    = 1<<PWild | 1<<PName | 1<<PNum | 1<<PCon
	all         = 1<<Kinds - 1<<Module
)

const unlimited = math.MaxInt

// form is what leaves of a kind look like.
type form struct {
	kind string // the name of the kind in texts
	text int
	num  int
	kids [3]group // one after another
}

// group is a number of kids of a set of kinds that follow each other.
type group struct {
	kinds       int
	least, most int
}

// forms returns the forms of all kinds. Two groups of kids that follow each other have no kind in common.
func forms() [Kinds]form {
	return [...]form{
		Module: {"module", lower, zero, [3]group{{1 << Import, 0, unlimited}, {1<<Data | 1<<Fun, 0, unlimited}}},
		Import: {"import", lower, zero, [3]group{{1 << Name, 1, unlimited}}},
		Data:   {"data", upper, zero, [3]group{{1 << Con, 1, unlimited}}},
		Con:    {"con", upper, zero, [3]group{{1 << Type, 0, unlimited}}},
		Fun:    {"fun", lower, zero, [3]group{{1 << Param, 0, unlimited}, {1 << Type, 1, 1}, {expressions, 1, 1}}},
		Param:  {"param", lower, flag, [3]group{{1 << Type, 1, 1}}},
		Type:   {"type", upper, zero, [3]group{}},
		Name:   {"name", lower, zero, [3]group{}},
		Num:    {"num", none, number, [3]group{}},
		Apply:  {"apply", lower, zero, [3]group{{expressions, 1, unlimited}}},
		Build:  {"build", upper, zero, [3]group{{expressions, 0, unlimited}}},
		Binary: {"binary", none, operation, [3]group{{expressions, 2, 2}}},
		Let:    {"let", lower, zero, [3]group{{expressions, 2, 2}}},
		If:     {"if", none, zero, [3]group{{expressions, 3, 3}}},
		Match:  {"match", none, count, [3]group{{expressions, 1, unlimited}, {1 << Clause, 1, unlimited}}},
		View:   {"view", none, count, [3]group{{expressions, 1, unlimited}, {1 << Clause, 1, unlimited}}},
		Clause: {"clause", none, zero, [3]group{{patterns, 1, unlimited}, {expressions, 1, 1}}},
		Copy:   {"copy", none, zero, [3]group{{expressions, 1, 1}}},
		PWild:  {"pwild", none, zero, [3]group{}},
		PName:  {"pname", lower, zero, [3]group{}},
		PNum:   {"pnum", none, number, [3]group{}},
		PCon:   {"pcon", upper, zero, [3]group{{patterns, 0, unlimited}}},
	}
}

// haveForms reports whether all leaves have the forms of their kinds, and ranges of a source. The kids are leaves of the tree.
func haveForms(t api.Tree) bool {
	table := forms()
	for _, l := range t.Leaves {
		if !isIn(all, l.Kind) || l.At.From < 0 || l.At.From > l.At.To || l.At.To > api.MaxSource {
			return false
		}
		f := table[l.Kind]
		if !fitsText(f.text, l.Text) || !fitsKids(f.kids, t, l) || !fitsNum(f.num, t, l) {
			return false
		}
	}
	return true
}

// fitsText reports whether a Text is what a form asks for.
func fitsText(wanted int, text string) bool {
	switch wanted {
	case lower:
		return names.Lower(text) && !token.Keyword(text)
	case upper:
		return names.Upper(text)
	}
	return text == ""
}

// fitsKids reports whether kids are the groups of a form.
func fitsKids(groups [3]group, t api.Tree, l api.Leaf) bool {
	next := 0
	for _, g := range groups {
		first := next
		for next < len(l.Kids) && next-first < g.most && isIn(g.kinds, t.Leaves[l.Kids[next]].Kind) {
			next++
		}
		if next-first < g.least {
			return false
		}
	}
	return next == len(l.Kids)
}

// fitsNum reports whether the Num of a leaf, whose kids have their form, is what a form asks for.
func fitsNum(wanted int, t api.Tree, l api.Leaf) bool {
	switch wanted {
	case number:
		return true
	case flag:
		return l.Num == 0 || l.Num == 1
	case operation:
		return 0 <= l.Num && l.Num < api.Prims
	case count:
		return fitsCount(t, l)
	}
	return l.Num == 0
}

// fitsCount reports whether the Num of a Match or View is the number of its expressions, and of the patterns of each of its clauses.
func fitsCount(t api.Tree, l api.Leaf) bool {
	scrutinees := 0
	for _, kid := range l.Kids {
		k := t.Leaves[kid]
		if k.Kind != Clause {
			scrutinees++
		} else if len(k.Kids) != scrutinees+1 {
			return false
		}
	}
	return l.Num == int64(scrutinees)
}

// isIn reports whether a kind, which may be any number, is in a set.
func isIn(kinds, kind int) bool {
	return kind >= 0 && kinds>>kind&1 > 0
}

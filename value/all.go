package value

import (
	"iter"
	"slices"

	"cellarer/api"
	"cellarer/datas"
)

// All returns the sequence of the values of a type with at most a number of cells, and with no other Ints than 0 and 1. There are none that Check does not accept because of their cells.
func All(d []api.Data, t api.Type, most int) iter.Seq[api.Value] {
	if checkType(d, t) != api.OK {
		return func(func(api.Value) bool) {}
	}
	// The sequence may be visited after the table has been changed.
	fields := map[api.Type][][]api.Type{}
	for _, t := range datas.Reach(d, t) {
		fields[t] = nil
		if t != api.Int {
			for _, c := range d[t-1].Cons {
				fields[t] = append(fields[t], slices.Clone(c.Fields))
			}
		}
	}
	return func(yield func(api.Value) bool) {
		e := newEnumeration(fields)
		for cells := range min(most, api.MaxCells) + 1 {
			e.grow(cells)
			for v := range e.values(t, cells) {
				if !yield(clone(v)) {
					return
				}
			}
		}
	}
}

// enumeration knows which numbers of cells values have, up to a number that grows. What has no values is not looked for, so that an enumeration ends soon where all values have few cells.
type enumeration struct {
	cons  map[api.Type][]con // those of the types that are needed
	sizes map[api.Type][]int // the numbers of cells of the values of a type, ascending
}

// con is a constructor: the types of its fields, and, for each number of the first fields that are left out, which numbers of cells lists of values of the other ones have together.
type con struct {
	fields []api.Type
	fits   [][]bool
}

func newEnumeration(fields map[api.Type][][]api.Type) enumeration {
	e := enumeration{cons: map[api.Type][]con{}, sizes: map[api.Type][]int{}}
	for t, cons := range fields {
		e.cons[t] = nil
		for _, f := range cons {
			e.cons[t] = append(e.cons[t], con{fields: f, fits: make([][]bool, len(f)+1)})
		}
	}
	return e
}

// grow finds which values have a number of cells. It is called with 0, 1, and so on.
func (e enumeration) grow(cells int) {
	for t, cons := range e.cons {
		if t == api.Int && cells == 0 || slices.ContainsFunc(cons, func(c con) bool { return c.has(cells) }) {
			e.sizes[t] = append(e.sizes[t], cells)
		}
	}
	for _, cons := range e.cons {
		for _, c := range cons {
			for i := len(c.fields); i >= 0; i-- {
				c.fits[i] = append(c.fits[i], e.hasLists(c, i, cells))
			}
		}
	}
}

// has reports whether a constructor has values with a number of cells.
func (c con) has(cells int) bool {
	if len(c.fields) == 0 {
		return cells == 0
	}
	return cells > 0 && c.fits[0][cells-1]
}

// hasLists reports whether there are values of the fields from one on that have a number of cells together.
func (e enumeration) hasLists(c con, from, cells int) bool {
	if from == len(c.fields) {
		return cells == 0
	}
	return slices.ContainsFunc(e.sizes[c.fields[from]], func(size int) bool { return c.fits[from+1][cells-size] })
}

// values yields the values of a type with a number of cells.
func (e enumeration) values(t api.Type, cells int) iter.Seq[api.Value] {
	return func(yield func(api.Value) bool) {
		if t == api.Int && cells == 0 {
			_ = yield(api.Value{}) && yield(api.Value{Num: 1})
		}
		for i, c := range e.cons[t] {
			if !c.has(cells) {
				continue
			}
			for args := range e.lists(c, 0, cells-min(len(c.fields), 1)) {
				if !yield(api.Value{Con: i, Args: args}) {
					return
				}
			}
		}
	}
}

// lists yields the lists of values of the fields from one on that have a number of cells together. There are such lists.
func (e enumeration) lists(c con, from, cells int) iter.Seq[[]api.Value] {
	return func(yield func([]api.Value) bool) {
		if from == len(c.fields) {
			yield(nil)
			return
		}
		for _, size := range e.sizes[c.fields[from]] {
			if size > cells || !c.fits[from+1][cells-size] {
				continue
			}
			for first := range e.values(c.fields[from], size) {
				for others := range e.lists(c, from+1, cells-size) {
					if !yield(slices.Concat([]api.Value{first}, others)) {
						return
					}
				}
			}
		}
	}
}

// clone returns a copy of a value that shares no memory with it.
func clone(v api.Value) api.Value {
	v.Args = slices.Clone(v.Args)
	for i, arg := range v.Args {
		v.Args[i] = clone(arg)
	}
	return v
}

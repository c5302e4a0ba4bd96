package eval

import (
	"slices"

	"cellarer/api"
)

// datum is a value as the evaluator keeps it: the number of an Int or of a constructor, and the cell of a constructor with fields. A copy may share the cell, because no cell is ever changed.
type datum struct {
	num  int64
	cell *cell
}

// cell contains the fields of a constructor. Its size is the number of cells of the value, which a Copy and a Drop so need not count.
type cell struct {
	fields []datum
	size   int
}

// construct returns a constructor with fields, which it keeps.
func construct(con int, fields []datum) datum {
	d := datum{num: int64(con)}
	if len(fields) > 0 {
		d.cell = &cell{fields: fields}
		d.cell.measure()
	}
	return d
}

// measure sets the size of a cell by those of its fields.
func (c *cell) measure() {
	c.size = 1
	for _, field := range c.fields {
		c.size += field.cells()
	}
}

// cells returns the number of cells of a value.
func (d datum) cells() int {
	if d.cell == nil {
		return 0
	}
	return d.cell.size
}

// datumOf returns what stands for a value, which shares no memory with it.
func datumOf(v api.Value) datum {
	type part struct {
		from api.Value
		to   *datum
	}
	var out datum
	var found []*cell // each before those that it contains
	work := []part{{v, &out}}
	for len(work) > 0 {
		next := work[len(work)-1]
		work = work[:len(work)-1]
		// Con of an Int is 0, and Num of a constructor.
		next.to.num = next.from.Num + int64(next.from.Con)
		if len(next.from.Args) == 0 {
			continue
		}
		next.to.cell = &cell{fields: make([]datum, len(next.from.Args))}
		found = append(found, next.to.cell)
		for i, arg := range next.from.Args {
			work = append(work, part{arg, &next.to.cell.fields[i]})
		}
	}
	for _, c := range slices.Backward(found) {
		c.measure()
	}
	return out
}

// valueOf returns the value of a type that a datum stands for, which shares no memory with anything.
func valueOf(d []api.Data, t api.Type, from datum) api.Value {
	type part struct {
		t    api.Type
		from datum
		to   *api.Value
	}
	var out api.Value
	work := []part{{t, from, &out}}
	for len(work) > 0 {
		next := work[len(work)-1]
		work = work[:len(work)-1]
		if next.t == api.Int {
			next.to.Num = next.from.num
			continue
		}
		next.to.Con = int(next.from.num)
		fields := d[next.t-1].Cons[next.to.Con].Fields
		next.to.Args = make([]api.Value, len(fields))
		for i, field := range fields {
			work = append(work, part{field, next.from.cell.fields[i], &next.to.Args[i]})
		}
	}
	return out
}

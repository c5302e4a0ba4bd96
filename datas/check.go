package datas

import (
	"slices"

	"cellarer/api"
	"cellarer/names"
)

// Check returns OK if a table is valid.
func Check(d []api.Data) api.Errno {
	switch {
	case hasTooMany(d):
		return api.ErrMany
	case !hasForm(d):
		return api.ErrForm
	case hasTwice(d):
		return api.ErrTwice
	case !hasFieldTypes(d):
		return api.ErrType
	case !hasFiniteValues(d):
		return api.ErrDeep
	}
	return api.OK
}

// hasTooMany reports whether there are more types, constructors or fields than a table has.
func hasTooMany(d []api.Data) bool {
	return len(d) > api.MaxDatas || slices.ContainsFunc(d, func(data api.Data) bool {
		return len(data.Cons) > api.MaxCons || slices.ContainsFunc(data.Cons, func(c api.Con) bool { return len(c.Fields) > api.MaxFields })
	})
}

// hasForm reports whether the first type is Bool, and all types have constructors and Names.
func hasForm(d []api.Data) bool {
	if len(d) == 0 || !isBool(d[0]) {
		return false
	}
	return !slices.ContainsFunc(d, func(data api.Data) bool {
		return !names.Upper(data.Name) || len(data.Cons) == 0 || slices.ContainsFunc(data.Cons, func(c api.Con) bool { return !names.Upper(c.Name) })
	})
}

func isBool(data api.Data) bool {
	return data.Name == "Bool" && slices.EqualFunc(data.Cons, []string{"False", "True"}, func(c api.Con, name string) bool {
		return c.Name == name && !hasFields(c)
	})
}

// hasTwice reports whether two types, one of which may be Int, or two constructors have the same name.
func hasTwice(d []api.Data) bool {
	types, cons := map[string]bool{"Int": true}, map[string]bool{}
	for _, data := range d {
		if types[data.Name] {
			return true
		}
		types[data.Name] = true
		for _, c := range data.Cons {
			if cons[c.Name] {
				return true
			}
			cons[c.Name] = true
		}
	}
	return false
}

// hasFieldTypes reports whether the types of all fields exist.
func hasFieldTypes(d []api.Data) bool {
	return !slices.ContainsFunc(d, func(data api.Data) bool {
		return slices.ContainsFunc(data.Cons, func(c api.Con) bool {
			return slices.ContainsFunc(c.Fields, func(t api.Type) bool { return !exists(d, t) })
		})
	})
}

// hasFiniteValues reports whether all types have finite values. The types of all fields exist.
func hasFiniteValues(d []api.Data) bool {
	finite := make([]bool, len(d)+1)
	finite[api.Int] = true
	isFinite := func(c api.Con) bool {
		return !slices.ContainsFunc(c.Fields, func(t api.Type) bool { return !finite[t] })
	}
	// A type may have finite values because of one that follows it, and so further rounds are made until one finds nothing.
	for found := true; found; {
		found = false
		for i, data := range d {
			if !finite[i+1] && slices.ContainsFunc(data.Cons, isFinite) {
				finite[i+1], found = true, true
			}
		}
	}
	return !slices.Contains(finite, false)
}

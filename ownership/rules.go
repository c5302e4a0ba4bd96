package ownership

import (
	"slices"

	"cellarer/api"
	"cellarer/nodes"
)

// The numbers of rules that are checked: all of them, or those that Drops that are added do not change.
const (
	allRules   = 5
	rulesOfUse = 4
)

// violation returns the first node in preorder that violates one of the first rules.
func (s subject) violation(rules int) (int, api.Errno) {
	if s.f.Extern {
		return 0, api.OK
	}
	var visit func(node int, at path) (int, api.Errno)
	visit = func(node int, at path) (int, api.Errno) {
		n := s.f.Code[node]
		if e := s.check(n, at, rules); e != api.OK {
			return node, e
		}
		for _, way := range nodes.Ways(n) {
			if node, e := visit(way.Then, s.past(at, n, way)); e != api.OK {
				return node, e
			}
		}
		return 0, api.OK
	}
	return visit(s.f.Body, s.start())
}

// check checks a node with the first rules.
func (s subject) check(n api.Node, at path, rules int) api.Errno {
	consumed, read := s.uses(n)
	isOver := func(v int) bool { return at.consumed[s.roots[v]] }
	isLast := n.Op == api.Ret || n.Op == api.Tail || n.Op == api.Hole
	switch {
	case slices.ContainsFunc(consumed, func(v int) bool { return s.f.Vars[v].Read }):
		return api.ErrMode
	case slices.ContainsFunc(consumed, isOver) || slices.ContainsFunc(read, isOver):
		return api.ErrUse
	case hasTwice(consumed) || slices.ContainsFunc(s.rootsOf(read), func(root int) bool { return slices.Contains(consumed, root) }):
		return api.ErrUse
	case isLast && slices.ContainsFunc(s.rootsOf(read), s.isOwned):
		return api.ErrUse
	case rules == allRules && isLast && slices.ContainsFunc(at.owned, func(v int) bool { return !at.consumed[v] && !slices.Contains(consumed, v) }):
		return api.ErrUse
	}
	return api.OK
}

// hasTwice reports whether a variable is in a list more than once.
func hasTwice(vars []int) bool {
	vars = slices.Sorted(slices.Values(vars))
	return len(slices.Compact(vars)) < len(vars)
}

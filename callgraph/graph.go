package callgraph

import (
	"maps"
	"slices"

	"cellarer/api"
)

// graph has, for each function of a program, the functions that it calls.
type graph [][]int

// graphOf returns the graph of a program that has been checked.
func graphOf(p api.Program) graph {
	var g graph
	for _, f := range p.Funs {
		g = append(g, callees(f))
	}
	return g
}

// reached returns the functions that some numbers reach, as far as these are functions.
func (g graph) reached(entries []int) []int {
	met := map[int]bool{}
	var visit func(fun int)
	visit = func(fun int) {
		if fun < 0 || fun >= len(g) || met[fun] {
			return
		}
		met[fun] = true
		for _, callee := range g[fun] {
			visit(callee)
		}
	}
	for _, fun := range entries {
		visit(fun)
	}
	return slices.Sorted(maps.Keys(met))
}

// components returns the components, each ascending, in any order.
func (g graph) components() [][]int {
	var out [][]int
	var stack []int             // the functions that were met and belong to no component yet
	number := map[int]int{}     // when a function was met, from 0
	finished := map[int]bool{}  // the functions that belong to a component
	var visit func(fun int) int // returns the least number that the function reaches on the stack
	visit = func(fun int) int {
		least := len(number)
		number[fun] = least
		stack = append(stack, fun)
		for _, callee := range g[fun] {
			if seen, ok := number[callee]; !ok {
				least = min(least, visit(callee))
			} else if !finished[callee] {
				least = min(least, seen)
			}
		}
		if least == number[fun] {
			begin := slices.Index(stack, fun)
			component := slices.Sorted(slices.Values(stack[begin:]))
			stack = stack[:begin]
			for _, member := range component {
				finished[member] = true
			}
			out = append(out, component)
		}
		return least
	}
	for fun := range g {
		if _, ok := number[fun]; !ok {
			visit(fun)
		}
	}
	return out
}

// inOrder returns components in their order: next comes the one with the least function whose calls lead to itself or to earlier ones.
func (g graph) inOrder(components [][]int) [][]int {
	slices.SortFunc(components, slices.Compare)
	listed := map[int]bool{}
	var out [][]int
	for len(components) > 0 {
		next := g.next(components, listed)
		for _, member := range components[next] {
			listed[member] = true
		}
		out = append(out, components[next])
		components = slices.Delete(components, next, next+1)
	}
	return out
}

// next returns the first component whose functions call only functions that are listed or belong to it.
func (g graph) next(components [][]int, listed map[int]bool) int {
search:
	for i, component := range components {
		for _, member := range component {
			for _, callee := range g[member] {
				if !listed[callee] && !slices.Contains(component, callee) {
					continue search
				}
			}
		}
		return i
	}
	return 0 // does not happen: calls between components lead nowhere in circles
}

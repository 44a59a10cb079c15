package types

import (
	"iter"
	"slices"

	"newel/api"
)

// node is a node of a type, with what is around it.
type node struct {
	t       api.Type
	parent  api.Type // whose Args it belongs to: the zero type around the type itself
	index   int      // among them
	level   int      // 1 for the type itself
	binders []int    // how many variables the binders around it have, from the outside on
}

// nodes visits the nodes of a type in preorder.
func nodes(t api.Type) iter.Seq[node] {
	return func(yield func(node) bool) {
		visit(node{t: t, level: 1}, yield)
	}
}

// visit visits a node and those inside of it, as long as yield asks for more.
func visit(n node, yield func(node) bool) bool {
	if !yield(n) {
		return false
	}
	for i, arg := range n.t.Args {
		inner := node{t: arg, parent: n.t, index: i, level: n.level + 1, binders: n.binders}
		if binds(n.t, i) {
			// Lists may share memory: only those on the way to one node are in use at a time.
			inner.binders = append(inner.binders, n.t.Num)
		}
		if !visit(inner, yield) {
			return false
		}
	}
	return true
}

// binds reports whether the argument of a type with an index is inside of a binder of this type.
func binds(t api.Type, index int) bool {
	return t.Kind == api.TLambda && index == 0 || t.Kind == api.TMatch && index > 0
}

// isFree reports whether a node is a TBound that belongs to no binder.
func (n node) isFree() bool {
	return n.t.Kind == api.TBound && !exists(n.binders, n.t.Sym)
}

// isOver reports whether a node is a TBound that has a binder, but not so many variables.
func (n node) isOver() bool {
	if n.t.Kind != api.TBound || n.isFree() {
		return false
	}
	variables := n.binders[len(n.binders)-1-n.t.Sym]
	return n.t.Num < 0 || n.t.Num >= variables
}

// Size returns the number of nodes, or MaxSize + 1 if there are more.
func Size(t api.Type) int {
	size := 0
	for range nodes(t) {
		if size++; size > MaxSize {
			break
		}
	}
	return size
}

// Depth returns the number of levels, or api.MaxNest + 1 if there are more.
func Depth(t api.Type) int {
	depth := 0
	for lists := [][]api.Type{{t}}; len(lists) > 0 && depth <= api.MaxNest; depth++ {
		lists = argsOf(lists)
	}
	return depth
}

// place is where a list of types lies in memory.
type place struct {
	first *api.Type
	size  int
}

// placeOf returns the place of a list that is not empty.
func placeOf(list []api.Type) place {
	return place{&list[0], len(list)}
}

// argsOf returns the lists of Args of the types in lists. A list that several types share is taken once: there may be few lists in memory, but more nodes than can be counted.
func argsOf(lists [][]api.Type) [][]api.Type {
	var out [][]api.Type
	seen := map[place]bool{}
	for _, list := range lists {
		for _, t := range list {
			if len(t.Args) > 0 && !seen[placeOf(t.Args)] {
				seen[placeOf(t.Args)] = true
				out = append(out, t.Args)
			}
		}
	}
	return out
}

// limits returns the error of a type that exceeds the limits.
func limits(t api.Type) api.Errno {
	size, depth := 0, 0
	for n := range nodes(t) {
		if size++; size > MaxSize {
			return api.ErrLimit
		}
		depth = max(depth, n.level)
	}
	if depth > api.MaxNest {
		return api.ErrDepth
	}
	return api.OK
}

// Free reports whether a TBound is free in a type, or the type exceeds the limits.
func Free(t api.Type) bool {
	if limits(t) != api.OK {
		return true
	}
	for n := range nodes(t) {
		if n.isFree() {
			return true
		}
	}
	return false
}

// Vars returns the numbers of the type variables of a type in increasing order.
func Vars(t api.Type) []int {
	if limits(t) != api.OK {
		return nil
	}
	var vars []int
	for n := range nodes(t) {
		if n.t.Kind == api.TVar {
			vars = append(vars, n.t.Num)
		}
	}
	slices.Sort(vars)
	return slices.Compact(vars)
}

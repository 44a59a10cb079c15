package syntax

import (
	"iter"
	"maps"
	"slices"

	"newel/api"
)

// nodes returns the nodes of a tree in preorder, but for those nested deeper than one level beyond the limit.
func nodes(n Node) iter.Seq[Node] {
	return func(yield func(Node) bool) { visit(n, 1, yield) }
}

// visit yields the nodes of a tree on a level and below, until yield reports false.
func visit(n Node, level int, yield func(Node) bool) bool {
	if !yield(n) {
		return false
	}
	if level > api.MaxNest {
		return true
	}
	for _, k := range n.Kids {
		if !visit(k, level+1, yield) {
			return false
		}
	}
	return true
}

// Size returns the number of nodes.
func Size(n Node) int {
	size := 0
	for range nodes(n) {
		size++
		if size > api.MaxNodes {
			break
		}
	}
	return size
}

// Depth returns the nesting.
func Depth(n Node) int {
	depth := 0
	for lists := [][]Node{{n}}; len(lists) > 0 && depth <= api.MaxNest; depth++ {
		lists = kidsOf(lists)
	}
	return depth
}

// place is where a list of nodes lies in memory.
type place struct {
	first *Node
	size  int
}

// placeOf returns the place of a list that is not empty.
func placeOf(l []Node) place {
	return place{&l[0], len(l)}
}

// kidsOf returns the lists of kids of the nodes in lists. A list that several nodes share is taken once: there may be few lists in memory, but more nodes than can be counted.
func kidsOf(lists [][]Node) [][]Node {
	var out [][]Node
	seen := map[place]bool{}
	for _, l := range lists {
		for _, n := range l {
			if len(n.Kids) > 0 && !seen[placeOf(n.Kids)] {
				seen[placeOf(n.Kids)] = true
				out = append(out, n.Kids)
			}
		}
	}
	return out
}

// isBeyond reports whether a tree exceeds the limits of trees.
func isBeyond(n Node) bool {
	return Depth(n) > api.MaxNest || Size(n) > api.MaxNodes
}

// Equal reports whether two trees are equal but for offsets.
func Equal(a, b Node) bool {
	type lists struct{ a, b []Node }
	type places struct{ a, b place }
	seen := map[places]bool{} // what is compared already, or will be: see kidsOf
	todo := []lists{{[]Node{a}, []Node{b}}}
	for len(todo) > 0 {
		l := todo[len(todo)-1]
		todo = todo[:len(todo)-1]
		for i, m := range l.a {
			n := l.b[i]
			if !isAlike(m, n) {
				return false
			}
			if len(m.Kids) == 0 {
				continue
			}
			if p := (places{placeOf(m.Kids), placeOf(n.Kids)}); !seen[p] {
				seen[p] = true
				todo = append(todo, lists{m.Kids, n.Kids})
			}
		}
	}
	return true
}

// isAlike reports whether two nodes are equal but for what their kids consist of.
func isAlike(a, b Node) bool {
	return a.Kind == b.Kind && a.Text == b.Text && a.Num == b.Num && len(a.Kids) == len(b.Kids)
}

// Count returns how many nodes have a kind.
func Count(n Node, kind int) int {
	if isBeyond(n) {
		return 0
	}
	count := 0
	for m := range nodes(n) {
		if m.Kind == kind {
			count++
		}
	}
	return count
}

// Names returns the names that occur in a tree.
func Names(n Node) []string {
	if isBeyond(n) {
		return nil
	}
	found := map[string]bool{}
	for m := range nodes(n) {
		if isName(m) {
			found[m.Text] = true
		}
	}
	return slices.Sorted(maps.Keys(found))
}

// isName reports whether a node is a name that is used, in a type or in an expression.
func isName(n Node) bool {
	return n.Kind == TName || n.Kind == XName
}

// Rename renames a name in a tree.
func Rename(n Node, from, to string) Node {
	if isBeyond(n) {
		return copied(n)
	}
	return renamed(n, from, to)
}

// renamed returns a tree in new memory, with a name renamed.
func renamed(n Node, from, to string) Node {
	if isName(n) && n.Text == from {
		n.Text = to
	}
	var kids []Node
	for _, k := range n.Kids {
		kids = append(kids, renamed(k, from, to))
	}
	n.Kids = kids
	return n
}

// copied returns a tree in new memory. A list that several nodes share is copied once: see kidsOf.
func copied(n Node) Node {
	made := map[place][]Node{}
	todo := []*Node{&n}
	for len(todo) > 0 {
		m := todo[len(todo)-1]
		todo = todo[:len(todo)-1]
		if len(m.Kids) == 0 {
			m.Kids = nil
			continue
		}
		old := placeOf(m.Kids)
		kids, isMade := made[old]
		if !isMade {
			kids = slices.Clone(m.Kids)
			made[old] = kids
			for i := range kids {
				todo = append(todo, &kids[i])
			}
		}
		m.Kids = kids
	}
	return n
}

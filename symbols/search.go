package symbols

import (
	"iter"
	"slices"

	"newel/api"
)

// FindClass returns the first class (or object) with an owner and a name, or -1.
func FindClass(p api.Program, owner int, name string, object bool) int {
	return slices.IndexFunc(p.Classes, func(c api.Class) bool {
		return c.Owner == owner && c.Name == name && (c.Kind == api.IsObject) == object
	})
}

// Declared returns the members that a class declares with a name.
func Declared(p api.Program, class int, name string) []api.Ref {
	if !exists(p.Classes, class) {
		return nil
	}
	var refs []api.Ref
	for _, i := range p.Classes[class].Fields {
		if exists(p.Fields, i) && p.Fields[i].Name == name {
			refs = append(refs, api.Ref{Kind: api.RefField, Index: i})
		}
	}
	for _, i := range p.Classes[class].Methods {
		if exists(p.Methods, i) && p.Methods[i].Name == name {
			refs = append(refs, api.Ref{Kind: api.RefMethod, Index: i})
		}
	}
	for _, i := range p.Classes[class].Types {
		if exists(p.Types, i) && p.Types[i].Name == name {
			refs = append(refs, api.Ref{Kind: api.RefType, Index: i})
		}
	}
	return refs
}

// Children returns the classes that have a class as a parent.
func Children(p api.Program, class int) []int {
	if !exists(p.Classes, class) {
		return nil
	}
	var children []int
	for i, c := range p.Classes {
		if slices.Contains(parentsOf(c.Parents), class) {
			children = append(children, i)
		}
	}
	return children
}

// Ancestors returns the ancestors of a class in increasing order.
func Ancestors(p api.Program, class int) []int {
	if !exists(p.Classes, class) {
		return nil
	}
	var ancestors []int
	seen := map[int]bool{}
	add := func(class int) {
		for _, parent := range parentsOf(p.Classes[class].Parents) {
			if exists(p.Classes, parent) && !seen[parent] {
				seen[parent] = true
				ancestors = append(ancestors, parent)
			}
		}
	}
	add(class)
	for i := 0; i < len(ancestors); i++ {
		add(ancestors[i])
	}
	slices.Sort(ancestors)
	return ancestors
}

// Inside reports whether a class is inside of another one.
func Inside(p api.Program, inner, outer int) bool {
	for class := range around(p, inner) {
		if class == outer {
			return true
		}
	}
	return false
}

// around returns the classes around a class, from the inside on. If there is a cycle, they are as many as the classes of the program, and otherwise fewer.
func around(p api.Program, class int) iter.Seq[int] {
	return func(yield func(int) bool) {
		at := class
		for range p.Classes {
			if !exists(p.Classes, at) {
				return
			}
			at = p.Classes[at].Owner
			if !exists(p.Classes, at) || !yield(at) {
				return
			}
		}
	}
}

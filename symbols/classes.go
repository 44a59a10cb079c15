package symbols

import (
	"slices"

	"newel/api"
)

// The flags that a class may have.
const classFlags = api.Abstract | api.Final | api.Sealed | api.Private | api.Case | api.Value | api.Synthetic

// checkClass returns the error of a class without its parents.
func checkClass(p api.Program, class int) api.Errno {
	c := p.Classes[class]
	switch {
	case !IsName(c.Name):
		return api.ErrName
	case c.Kind < 0 || c.Kind >= api.ClassKinds:
		return api.ErrKind
	case !keepsClassFlags(c):
		return api.ErrInvalid
	case c.Owner != noOwner && (c.Owner == class || !exists(p.Classes, c.Owner)) || !existLists(p, c):
		return api.ErrRange
	case slices.ContainsFunc([][]int{c.TParams, c.Params, c.Fields, c.Methods, c.Types}, hasTwice):
		return api.ErrTwice
	case !keepsNumbers(c):
		return api.ErrArity
	case !ownsLists(p, class) || !keepsValue(c):
		return api.ErrInvalid
	}
	return api.OK
}

// keepsClassFlags reports whether a class may have its flags.
func keepsClassFlags(c api.Class) bool {
	if c.Flags&^classFlags != 0 || has(c.Flags, api.Abstract) && has(c.Flags, api.Final) {
		return false
	}
	switch c.Kind {
	case api.IsTrait:
		return !has(c.Flags, api.Final|api.Case|api.Value)
	case api.IsObject:
		return !has(c.Flags, api.Abstract|api.Sealed|api.Value)
	}
	return true
}

// existLists reports whether all that the lists of a class name exists.
func existLists(p api.Program, c api.Class) bool {
	return existAll(p.TParams, c.TParams) && existAll(p.Fields, c.Params) && existAll(p.Fields, c.Fields) &&
		existAll(p.Methods, c.Methods) && existAll(p.Types, c.Types)
}

// keepsNumbers reports whether a class may have as many parameters and type parameters as it has.
func keepsNumbers(c api.Class) bool {
	if len(c.TParams) > api.MaxArgs || len(c.Params) > api.MaxArgs {
		return false
	}
	isPlain := c.Kind == api.IsClass
	return (isPlain || len(c.Params) == 0) && (c.Kind != api.IsObject || len(c.TParams) == 0)
}

// ownsLists reports whether what the lists of a class name belongs to it.
func ownsLists(p api.Program, class int) bool {
	c := p.Classes[class]
	for _, i := range c.Fields {
		if p.Fields[i].Owner != class {
			return false
		}
	}
	for _, i := range c.Methods {
		if p.Methods[i].Owner != class {
			return false
		}
	}
	for _, i := range c.Types {
		if p.Types[i].Owner != class {
			return false
		}
	}
	for _, i := range c.TParams {
		if p.TParams[i].Class != class || p.TParams[i].Method != noOwner {
			return false
		}
	}
	return isPart(c.Params, c.Fields)
}

// isPart reports whether a list has all numbers of another one.
func isPart(list, whole []int) bool {
	isIn := map[int]bool{}
	for _, i := range whole {
		isIn[i] = true
	}
	for _, i := range list {
		if !isIn[i] {
			return false
		}
	}
	return true
}

// keepsValue reports whether a class is no value class, or has the one field that makes it one.
func keepsValue(c api.Class) bool {
	return !has(c.Flags, api.Value) || len(c.Params) == 1 && len(c.Fields) == 1
}

// checkNesting returns the error of the classes around a class.
func checkNesting(p api.Program, class int) api.Errno {
	if Inside(p, class, class) {
		return api.ErrCycle
	}
	return api.OK
}

// checkParents returns the error of the parents of a class.
func checkParents(p api.Program, class int) api.Errno {
	switch n := len(p.Classes[class].Parents); {
	case n == 0:
		return api.ErrEmpty
	case n > api.MaxArgs:
		return api.ErrLimit
	}
	for i, t := range p.Classes[class].Parents {
		if i == 0 && t.Kind == api.TAny {
			continue
		}
		if e := checkParent(p, class, i); e != api.OK {
			return e
		}
	}
	return api.OK
}

// checkParent returns the error of a parent that is not TAny in the first place.
func checkParent(p api.Program, class, index int) api.Errno {
	c := p.Classes[class]
	t := c.Parents[index]
	if t.Kind != api.TClass {
		return api.ErrKind
	}
	if !exists(p.Classes, t.Sym) {
		return api.ErrRange
	}
	parent := p.Classes[t.Sym]
	switch {
	case !fitsPlace(c, parent, index):
		return api.ErrKind
	case has(parent.Flags, api.Final):
		return api.ErrFinal
	case len(parent.TParams) != len(t.Args):
		return api.ErrArity
	case slices.Contains(parentsOf(c.Parents[:index]), t.Sym):
		return api.ErrTwice
	case has(c.Flags, api.Case) && has(parent.Flags, api.Case), has(c.Flags, api.Value) && index == 0:
		return api.ErrInvalid
	}
	return api.OK
}

// fitsPlace reports whether a parent may stand at a place among the parents of a class.
func fitsPlace(c, parent api.Class, index int) bool {
	if index > 0 {
		return parent.Kind == api.IsTrait
	}
	return parent.Kind == api.IsClass && c.Kind != api.IsTrait
}

// parentsOf returns the classes of the types in a list that are classes.
func parentsOf(types []api.Type) []int {
	var classes []int
	for _, t := range types {
		if t.Kind == api.TClass {
			classes = append(classes, t.Sym)
		}
	}
	return classes
}

// checkAncestors returns the error of the ancestors of a class.
func checkAncestors(p api.Program, class int) api.Errno {
	ancestors := Ancestors(p, class)
	if slices.Contains(ancestors, class) {
		return api.ErrCycle
	}
	isCase := func(c int) bool { return has(p.Classes[c].Flags, api.Case) }
	if isCase(class) && slices.ContainsFunc(ancestors, isCase) {
		return api.ErrInvalid
	}
	return api.OK
}

// checkClassName returns the error of the name of a class.
func checkClassName(p api.Program, class int) api.Errno {
	c := p.Classes[class]
	if FindClass(p, c.Owner, c.Name, c.Kind == api.IsObject) < class {
		return api.ErrTwice
	}
	return api.OK
}

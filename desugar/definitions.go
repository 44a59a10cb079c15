package desugar

import (
	"slices"

	"newel/api"
	"newel/syntax"
)

func (r *replacer) lists(n syntax.Node) syntax.Node {
	if i := misplaced(n.Kids); i >= 0 {
		fail(n.Kids[i].At, api.ErrOrder)
	}
	return n
}

// misplaced returns the index of the first plain list that stands behind a using list, or -1.
func misplaced(lists []syntax.Node) int {
	isUsing := false
	for i, l := range lists {
		if isUsing && l.Num == 0 {
			return i
		}
		isUsing = isUsing || l.Num == 1
	}
	return -1
}

func (r *replacer) extension(n syntax.Node) []syntax.Node {
	list := maker{n.At}.node(syntax.SParams, "", n.Kids[1])
	var defs []syntax.Node
	for _, d := range n.Kids[2:] {
		d.Num = 1
		d.Kids = slices.Clone(d.Kids)
		d.Kids[namesKid] = withFirst(d.Kids[namesKid], n.Kids[0].Kids...)
		d.Kids[listsKid] = withFirst(d.Kids[listsKid], list)
		defs = append(defs, d)
	}
	return defs
}

// withFirst returns a node with more kids in front of its own.
func withFirst(n syntax.Node, first ...syntax.Node) syntax.Node {
	n.Kids = slices.Concat(first, n.Kids)
	return n
}

// enumCase answers a case that is none of an enum: the others are replaced with their enum.
func (r *replacer) enumCase(n syntax.Node) []syntax.Node {
	fail(n.At, api.ErrForm)
	return nil
}

// class replaces an enum.
func (r *replacer) class(n syntax.Node) []syntax.Node {
	if n.Num != enumClass {
		return []syntax.Node{n}
	}
	if n.Kids[modsKid].Num&api.Final != 0 {
		fail(n.At, api.ErrFinal)
	}
	var cases, others []syntax.Node
	for _, s := range n.Kids[bodyKid].Kids {
		if s.Kind == syntax.SEnumCase {
			cases = append(cases, classOfCase(n, s))
		} else {
			others = append(others, s)
		}
	}
	if len(cases) == 0 {
		fail(n.At, api.ErrEmpty)
	}
	return slices.Insert(cases, 0, baseOfCases(n, others))
}

// baseOfCases makes the class that all cases of an enum extend, with what is left of its body.
func baseOfCases(enum syntax.Node, statements []syntax.Node) syntax.Node {
	enum.Num = plainClass
	enum.Kids = slices.Clone(enum.Kids)
	enum.Kids[modsKid].Num |= api.Sealed | api.Abstract
	enum.Kids[bodyKid].Kids = statements
	if len(statements) == 0 {
		enum.Kids[bodyKid] = maker{enum.At}.none()
	}
	return enum
}

// classOfCase makes the case class or the case object of a case.
func classOfCase(enum, c syntax.Node) syntax.Node {
	m := maker{c.At}
	ownNames, ownLists, ownParents := c.Kids[0], c.Kids[1], c.Kids[2]
	isObject, isPlain := len(ownLists.Kids) == 0, len(ownParents.Kids) == 0
	class := m.node(syntax.SClass, c.Text, m.node(syntax.SMods, ""), ownNames, ownLists, ownParents, m.none())
	class.Num = caseClass
	switch {
	case isObject:
		class.Num = caseObject
		class.Kids[namesKid] = m.node(syntax.SNames, "")
	case isPlain && len(ownNames.Kids) == 0:
		class.Kids[namesKid] = enum.Kids[namesKid]
	}
	if isPlain {
		class.Kids[parentsKid] = m.node(syntax.SParents, "", m.node(syntax.SParent, "", m.parentOfCase(enum, isObject)))
	}
	return class
}

// parentOfCase makes the type that a case without parents extends: its enum, applied to arguments.
func (m maker) parentOfCase(enum syntax.Node, isObject bool) syntax.Node {
	parent := m.node(syntax.TName, enum.Text)
	params := enum.Kids[namesKid].Kids
	if len(params) == 0 {
		return parent
	}
	kids := []syntax.Node{parent}
	for _, p := range params {
		name := p.Text
		if isObject {
			name = m.leastArgument(p)
		}
		kids = append(kids, m.node(syntax.TName, name))
	}
	return m.node(syntax.TApply, "", kids...)
}

// leastArgument returns the name of the type with which an enum conforms to all its other applications, in a type parameter.
func (m maker) leastArgument(param syntax.Node) string {
	switch param.Num {
	case api.Covariant:
		return "Nothing"
	case api.Contravariant:
		return "Any"
	}
	fail(m.at, api.ErrVariance)
	return ""
}

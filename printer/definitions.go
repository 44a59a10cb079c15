package printer

import (
	"strings"

	"newel/api"
	"newel/syntax"
)

func definitionRules() map[int]rule {
	return map[int]rule{
		syntax.SUnit:      (*writer).unit,
		syntax.SImport:    (*writer).imports,
		syntax.SClass:     (*writer).class,
		syntax.SDef:       (*writer).def,
		syntax.SVal:       (*writer).val,
		syntax.SType:      (*writer).typeDefinition,
		syntax.SGiven:     (*writer).given,
		syntax.SExtension: (*writer).extension,
		syntax.STParam:    (*writer).typeParam,
		syntax.SParams:    (*writer).params,
		syntax.SParam:     (*writer).param,
		syntax.SParent:    (*writer).parent,
	}
}

func (w *writer) unit(n syntax.Node, p place) {
	w.lines((*writer).node, p, n.Kids...)
}

func (w *writer) imports(n syntax.Node, p place) {
	path, all := strings.CutSuffix(n.Text, ".*")
	w.put("import ")
	w.path(path)
	if all {
		w.put(".*")
	}
}

// mods writes modifiers with a blank behind each.
func (w *writer) mods(n syntax.Node) {
	for _, m := range [...]struct {
		flag int64
		word string
	}{
		{api.Abstract, "abstract "}, {api.Final, "final "}, {api.Sealed, "sealed "}, {api.Private, "private "},
		{api.Override, "override "}, {api.Volatile, "volatile "}, {api.Inline, "inline "},
	} {
		if n.Num&m.flag != 0 {
			w.put(m.word)
		}
	}
}

// Nums of SClass that have forms of their own.
const (
	isObject     = 2
	isCaseObject = 4
	isEnum       = 5
)

func (w *writer) class(n syntax.Node, p place) {
	names, lists, parents, body := n.Kids[1], n.Kids[2], n.Kids[3], n.Kids[4]
	if n.Num == isObject || n.Num == isCaseObject {
		w.needNone(names, lists)
	}
	w.mods(n.Kids[0])
	w.put([...]string{"class ", "trait ", "object ", "case class ", "case object ", "enum "}[n.Num])
	w.header(n.Text, names, lists, p)
	w.parents(parents, p)
	switch {
	case n.Num == isEnum:
		w.bad = w.bad || body.Kind == syntax.SNone
		w.region(":", (*writer).enumStatement, p, body.Kids...)
	case body.Kind != syntax.SNone:
		w.region(":", (*writer).node, p, body.Kids...)
	}
}

// needNone finds out whether there is something that no text has here.
func (w *writer) needNone(lists ...syntax.Node) {
	for _, l := range lists {
		if len(l.Kids) > 0 {
			w.bad = true
		}
	}
}

// header writes a name of letters, type parameters and lists of parameters.
func (w *writer) header(name string, names, lists syntax.Node, p place) {
	w.name(name)
	w.namesAndLists(names, lists, p)
}

func (w *writer) namesAndLists(names, lists syntax.Node, p place) {
	w.names(names, p)
	w.list("", w.at(p), lists.Kids...)
}

// names writes type parameters, if there are some.
func (w *writer) names(n syntax.Node, p place) {
	if len(n.Kids) > 0 {
		w.bracketed("[", "]", p, n.Kids...)
	}
}

// enumStatement writes a statement of an enum. Cases stand nowhere else.
func (w *writer) enumStatement(n syntax.Node, p place) {
	if n.Kind != syntax.SEnumCase {
		w.node(n, p)
		return
	}
	w.put("case ")
	w.header(n.Text, n.Kids[0], n.Kids[1], p)
	w.parents(n.Kids[2], p)
}

func (w *writer) parents(n syntax.Node, p place) {
	if len(n.Kids) > 0 {
		w.put(" extends ")
		w.list(" with ", w.at(p.inside()), n.Kids...)
	}
}

func (w *writer) parent(n syntax.Node, p place) {
	w.bound(n.Kids[0], simpleType, p)
	if n.Num == 1 {
		w.bracketed("(", ")", p, n.Kids[1:]...)
	}
}

func (w *writer) def(n syntax.Node, p place) {
	// Only later layers make extension methods outside of extensions.
	w.bad = w.bad || n.Num != 0
	w.mods(n.Kids[0])
	w.put("def ")
	w.id(n.Text)
	w.namesAndLists(n.Kids[1], n.Kids[2], p)
	w.typed(n.Kids[3], p)
	w.assigned(n.Kids[4], p)
}

// typed writes a type and a colon in front of it, if there is one.
func (w *writer) typed(n syntax.Node, p place) {
	if n.Kind != syntax.SNone {
		w.colon()
		w.node(n, p.inside())
	}
}

// assigned writes what stands behind `=`, if there is something.
func (w *writer) assigned(n syntax.Node, p place) {
	if n.Kind != syntax.SNone {
		w.put(" =")
		w.value(n, p)
	}
}

func (w *writer) val(n syntax.Node, p place) {
	w.mods(n.Kids[0])
	w.put([...]string{"val ", "var ", "lazy val "}[n.Num])
	w.name(n.Text)
	w.typed(n.Kids[1], p)
	w.assigned(n.Kids[2], p)
}

func (w *writer) typeDefinition(n syntax.Node, p place) {
	w.mods(n.Kids[0])
	w.put("type ")
	w.name(n.Text)
	w.names(n.Kids[1], p)
	w.bounds(n.Kids[2], n.Kids[3], p)
	if n.Kids[4].Kind != syntax.SNone {
		w.put(" = ")
		w.node(n.Kids[4], p)
	}
}

// bounds writes the bounds of a type that there are.
func (w *writer) bounds(low, high syntax.Node, p place) {
	if low.Kind != syntax.SNone {
		w.put(" >: ")
		w.node(low, p.inside())
	}
	if high.Kind != syntax.SNone {
		w.put(" <: ")
		w.node(high, p.inside())
	}
}

func (w *writer) given(n syntax.Node, p place) {
	w.mods(n.Kids[0])
	w.put("given ")
	if n.Text == "" {
		w.needNone(n.Kids[1], n.Kids[2])
	} else {
		w.header(n.Text, n.Kids[1], n.Kids[2], p)
		w.put(": ")
	}
	w.node(n.Kids[3], p.inside())
	w.assigned(n.Kids[4], p)
}

func (w *writer) extension(n syntax.Node, p place) {
	w.put("extension ")
	w.names(n.Kids[0], p)
	w.bracketed("(", ")", p, n.Kids[1])
	w.region(":", (*writer).node, p, n.Kids[2:]...)
}

func (w *writer) typeParam(n syntax.Node, p place) {
	switch n.Num {
	case api.Covariant:
		w.put("+")
	case api.Contravariant:
		w.put("-")
	}
	w.name(n.Text)
	if holes := n.Kids[2:]; len(holes) > 0 {
		w.put("[")
		w.list(", ", func(syntax.Node) { w.put("_") }, holes...)
		w.put("]")
	}
	w.bounds(n.Kids[0], n.Kids[1], p)
}

// params writes a list of parameters.
func (w *writer) params(n syntax.Node, p place) {
	w.bracketed("("+using(n.Num, n.Kids), ")", p, n.Kids...)
}

// using returns the keyword of a list of given values, or nothing for another list.
func using(num int64, items []syntax.Node) string {
	switch {
	case num == 0:
		return ""
	case len(items) == 0:
		return "using"
	}
	return "using "
}

// What Num of SParam is the sum of.
const (
	isByName   = 1
	isRepeated = 2
	isVal      = 4
	isVar      = 8
)

func (w *writer) param(n syntax.Node, p place) {
	w.mods(n.Kids[0])
	switch {
	case n.Num&isVal != 0:
		w.put("val ")
	case n.Num&isVar != 0:
		w.put("var ")
	}
	w.name(n.Text)
	w.put(": ")
	if n.Num&isByName != 0 {
		w.put("=> ")
	}
	w.node(n.Kids[1], p)
	if n.Num&isRepeated != 0 {
		w.put("*")
	}
	w.assigned(n.Kids[2], p)
}

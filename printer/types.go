package printer

import "newel/syntax"

func typeRules() map[int]rule {
	return map[int]rule{
		syntax.TName:     (*writer).typeName,
		syntax.TSelect:   (*writer).typeMember,
		syntax.TApply:    (*writer).typeApplication,
		syntax.TFunction: (*writer).functionType,
		syntax.TAnd:      (*writer).andType,
		syntax.TOr:       (*writer).orType,
		syntax.TSingle:   (*writer).singleton,
		syntax.TLambda:   (*writer).typeLambda,
		syntax.TMatch:    (*writer).matchType,
		syntax.TCase:     (*writer).typeCase,
	}
}

func (w *writer) typeName(n syntax.Node, p place) {
	w.name(n.Text)
}

func (w *writer) typeMember(n syntax.Node, p place) {
	w.pathTree(n.Kids[0])
	w.put(".")
	w.name(n.Text)
}

func (w *writer) singleton(n syntax.Node, p place) {
	w.pathTree(n.Kids[0])
	w.put(".type")
}

// pathTree writes the path in front of a member of a type, whose names are no operators.
func (w *writer) pathTree(n syntax.Node) {
	switch n.Kind {
	case syntax.XThis:
		w.put("this")
	case syntax.XName:
		w.name(n.Text)
	default:
		w.pathTree(n.Kids[0])
		w.put(".")
		w.name(n.Text)
	}
}

func (w *writer) typeApplication(n syntax.Node, p place) {
	w.bound(n.Kids[0], simpleType, p)
	w.put("[")
	w.list(", ", func(arg syntax.Node) { w.typeArgument(arg, p.inside()) }, n.Kids[1:]...)
	w.put("]")
}

// typeArgument writes a type, or a wildcard, which stands nowhere else.
func (w *writer) typeArgument(n syntax.Node, p place) {
	if n.Kind != syntax.TWild {
		w.node(n, p)
		return
	}
	w.put("_")
	w.bounds(n.Kids[0], n.Kids[1], p)
}

func (w *writer) functionType(n syntax.Node, p place) {
	last := len(n.Kids) - 1
	if last == 1 {
		w.bound(n.Kids[0], orType, p.inside())
	} else {
		w.bracketed("(", ")", p, n.Kids[:last]...)
	}
	w.put(" => ")
	w.node(n.Kids[last], p)
}

func (w *writer) andType(n syntax.Node, p place) {
	w.pair(n, " & ", andType, p)
}

func (w *writer) orType(n syntax.Node, p place) {
	w.pair(n, " | ", orType, p)
}

// pair writes two types, which are read from the left.
func (w *writer) pair(n syntax.Node, mark string, level int, p place) {
	w.bound(n.Kids[0], level, p)
	w.put(mark)
	w.bound(n.Kids[1], level+1, p)
}

func (w *writer) typeLambda(n syntax.Node, p place) {
	w.bad = w.bad || len(n.Kids[0].Kids) == 0
	w.names(n.Kids[0], p)
	w.put(" =>> ")
	w.node(n.Kids[1], p)
}

func (w *writer) matchType(n syntax.Node, p place) {
	w.bound(n.Kids[0], orType, p.inside())
	w.put(" match")
	w.region("", (*writer).node, p, n.Kids[1:]...)
}

func (w *writer) typeCase(n syntax.Node, p place) {
	w.put("case ")
	w.bound(n.Kids[0], orType, p.inside())
	w.put(" => ")
	w.node(n.Kids[1], p)
}

package printer

import (
	"strings"

	"newel/syntax"
)

func patternRules() map[int]rule {
	return map[int]rule{
		syntax.PWild:    (*writer).wildcard,
		syntax.PBind:    (*writer).binding,
		syntax.PTyped:   (*writer).typedPattern,
		syntax.PLiteral: (*writer).literalPattern,
		syntax.PStable:  (*writer).stable,
		syntax.PApply:   (*writer).applied,
		syntax.PAlt:     (*writer).alternatives,
	}
}

func (w *writer) wildcard(n syntax.Node, p place) {
	w.put("_")
}

// isVariable reports whether a name alone is a pattern for everything.
func isVariable(name string) bool {
	return name[0] == '_' || name[0] >= 'a' && name[0] <= 'z'
}

func (w *writer) binding(n syntax.Node, p place) {
	w.name(n.Text)
	if n.Kids[0].Kind == syntax.PWild && isVariable(n.Text) {
		return
	}
	w.put(" @ ")
	w.bound(n.Kids[0], onePattern, p)
}

func (w *writer) typedPattern(n syntax.Node, p place) {
	w.nameOrBlank(n.Text)
	w.put(": ")
	w.bound(n.Kids[0], orType, p)
}

// nameOrBlank writes a name, or `_`.
func (w *writer) nameOrBlank(text string) {
	if text == "_" {
		w.put(text)
		return
	}
	w.name(text)
}

func (w *writer) literalPattern(n syntax.Node, p place) {
	w.node(n.Kids[0], p)
}

func (w *writer) stable(n syntax.Node, p place) {
	// A name alone that begins so is a variable.
	w.bad = w.bad || isVariable(n.Text) && !strings.Contains(n.Text, ".")
	w.path(n.Text)
}

func (w *writer) applied(n syntax.Node, p place) {
	w.path(n.Text)
	w.bracketed("(", ")", p, n.Kids...)
}

func (w *writer) alternatives(n syntax.Node, p place) {
	w.list(" | ", func(kid syntax.Node) { w.bound(kid, closedPattern, p) }, n.Kids...)
}

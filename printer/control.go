package printer

import "newel/syntax"

func controlRules() map[int]rule {
	return map[int]rule{
		syntax.XIf:          (*writer).conditional,
		syntax.XWhile:       (*writer).loop,
		syntax.XFor:         (*writer).comprehension,
		syntax.SGenerator:   (*writer).generator,
		syntax.SBinding:     (*writer).enumerator,
		syntax.SGuard:       (*writer).guard,
		syntax.XMatch:       (*writer).match,
		syntax.SCase:        (*writer).clause,
		syntax.XTry:         (*writer).attempt,
		syntax.XThrow:       (*writer).throw,
		syntax.XReturn:      (*writer).result,
		syntax.XLambda:      (*writer).lambda,
		syntax.SLambdaParam: (*writer).lambdaParam,
	}
}

// condition writes a condition, and behind it the keyword behind which a block may be written by indentation.
func (w *writer) condition(n syntax.Node, key string, p place) {
	w.parentheses(n, p)
	if p.tail {
		w.put(" ", key)
	}
}

// valueBefore writes what stands between an opener and a keyword, which must not be taken for one of the value.
func (w *writer) valueBefore(key string, n syntax.Node, p place) {
	if takes(n, key) {
		w.put(" ")
		w.parentheses(n, p)
		return
	}
	w.value(n, p)
}

// again writes a keyword with which an expression goes on. It begins a line if indentations must end in front of it.
func (w *writer) again(key string, p place) {
	if w.start > p.indent {
		w.liner(p)()
	} else {
		w.put(" ")
	}
	w.put(key)
}

func (w *writer) conditional(n syntax.Node, p place) {
	w.put("if ")
	w.condition(n.Kids[0], "then", p)
	if n.Kids[2].Kind == syntax.SNone {
		w.value(n.Kids[1], p)
		return
	}
	w.valueBefore("else", n.Kids[1], p)
	w.again("else", p)
	w.value(n.Kids[2], p)
}

func (w *writer) loop(n syntax.Node, p place) {
	w.put("while ")
	w.condition(n.Kids[0], "do", p)
	w.value(n.Kids[1], p)
}

func (w *writer) comprehension(n syntax.Node, p place) {
	last := len(n.Kids) - 1
	w.put("for (")
	w.list("; ", w.at(p.inside()), n.Kids[:last]...)
	w.put(") ", [...]string{"do", "yield"}[n.Num])
	w.value(n.Kids[last], p)
}

func (w *writer) generator(n syntax.Node, p place) {
	w.node(n.Kids[0], p)
	w.put(" <- ")
	w.node(n.Kids[1], p)
}

func (w *writer) enumerator(n syntax.Node, p place) {
	w.node(n.Kids[0], p)
	w.assigned(n.Kids[1], p)
}

func (w *writer) guard(n syntax.Node, p place) {
	w.put("if ")
	w.node(n.Kids[0], p)
}

func (w *writer) match(n syntax.Node, p place) {
	w.bound(n.Kids[0], operation, p.inside())
	w.put(" match")
	w.region("", (*writer).node, p, n.Kids[1:]...)
}

func (w *writer) clause(n syntax.Node, p place) {
	w.put("case ")
	w.node(n.Kids[0], p.inside())
	if n.Kids[1].Kind != syntax.SNone {
		w.put(" if ")
		// The first `=>` outside of brackets is that of the case.
		w.bound(n.Kids[1], operation+1, p.inside())
	}
	w.put(" =>")
	w.value(n.Kids[2], p)
}

func (w *writer) attempt(n syntax.Node, p place) {
	body, cases, finally := n.Kids[0], n.Kids[1].Kids, n.Kids[2]
	w.put("try")
	switch {
	case len(cases) > 0:
		w.valueBefore("catch", body, p)
		w.again("catch", p)
		w.region("", (*writer).node, p, cases...)
	case finally.Kind != syntax.SNone:
		w.valueBefore("finally", body, p)
	default:
		w.value(body, p)
	}
	if finally.Kind != syntax.SNone {
		w.again("finally", p)
		w.value(finally, p)
	}
}

func (w *writer) throw(n syntax.Node, p place) {
	w.put("throw")
	w.value(n.Kids[0], p)
}

func (w *writer) result(n syntax.Node, p place) {
	w.put("return")
	if n.Kids[0].Kind != syntax.SNone {
		w.value(n.Kids[0], p)
	}
}

func (w *writer) lambda(n syntax.Node, p place) {
	last := len(n.Kids) - 1
	if last == 1 && n.Kids[0].Kids[0].Kind == syntax.SNone {
		w.node(n.Kids[0], p)
	} else {
		w.bracketed("(", ")", p, n.Kids[:last]...)
	}
	w.put(" =>")
	w.value(n.Kids[last], p)
}

func (w *writer) lambdaParam(n syntax.Node, p place) {
	w.nameOrBlank(n.Text)
	if n.Kids[0].Kind != syntax.SNone {
		w.put(": ")
		w.bound(n.Kids[0], orType, p)
	}
}

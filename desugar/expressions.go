package desugar

import (
	"strings"

	"newel/api"
	"newel/syntax"
)

func (r *replacer) infix(n syntax.Node) syntax.Node {
	m := maker{n.At}
	a, b := n.Kids[0], n.Kids[1]
	switch {
	case n.Text == "&&":
		return m.node(syntax.XIf, "", a, b, m.node(syntax.XFalse, ""))
	case n.Text == "||":
		return m.node(syntax.XIf, "", a, m.node(syntax.XTrue, ""), b)
	case n.Text == "!=":
		return m.node(syntax.XSelect, "!", m.call(a, "==", b))
	case strings.HasSuffix(n.Text, ":"):
		// The left operand is evaluated first, though it is the argument.
		name := r.fresh()
		value := m.node(syntax.SVal, name, m.node(syntax.SMods, ""), m.none(), a)
		return m.node(syntax.XBlock, "", value, m.call(b, n.Text, m.node(syntax.XName, name)))
	}
	return m.call(a, n.Text, b)
}

func (r *replacer) prefix(n syntax.Node) syntax.Node {
	return maker{n.At}.node(syntax.XSelect, n.Text, n.Kids[0])
}

func (r *replacer) assign(n syntax.Node) syntax.Node {
	m := maker{n.At}
	left, value := n.Kids[0], n.Kids[1]
	if op := strings.TrimSuffix(n.Text, "="); op != "" {
		value = m.node(syntax.XInfix, op, left, value)
	}
	if left.Kind == syntax.XApply {
		args := append([]syntax.Node{}, left.Kids[1:]...)
		return m.call(left.Kids[0], "update", append(args, value)...)
	}
	if !isAssignable(left) {
		fail(n.At, api.ErrForm)
	}
	return m.node(syntax.XAssign, "=", left, value)
}

// isAssignable reports whether a node stands on the left of `=` in a core tree.
func isAssignable(n syntax.Node) bool {
	return n.Kind == syntax.XName || n.Kind == syntax.XSelect
}

func (r *replacer) interpolated(n syntax.Node) syntax.Node {
	if n.Text != "s" {
		fail(n.At, api.ErrName)
	}
	text := n.Kids[0]
	for _, k := range n.Kids[1:] {
		if k.Kind != syntax.XString || k.Text != "" {
			text = maker{n.At}.call(text, "+", k)
		}
	}
	return text
}

func (r *replacer) conditional(n syntax.Node) syntax.Node {
	if isNone(n.Kids[2]) {
		m := maker{n.At}
		return m.node(syntax.XIf, "", n.Kids[0], n.Kids[1], m.unit())
	}
	return n
}

func (r *replacer) result(n syntax.Node) syntax.Node {
	if isNone(n.Kids[0]) {
		m := maker{n.At}
		return m.node(syntax.XReturn, "", m.unit())
	}
	return n
}

func (r *replacer) block(n syntax.Node) syntax.Node {
	for _, k := range n.Kids {
		if !isStatement(k) {
			fail(k.At, api.ErrForm)
		}
	}
	if endsInExpression(n.Kids) {
		return n
	}
	m := maker{n.At}
	kids := append([]syntax.Node{}, n.Kids...)
	return m.node(syntax.XBlock, "", append(kids, m.unit())...)
}

// isStatement reports whether a node stands in the blocks of core trees.
func isStatement(n syntax.Node) bool {
	const value = 2
	return isExpression(n) || n.Kind == syntax.SImport || n.Kind == syntax.SVal && !isNone(n.Kids[value])
}

func endsInExpression(statements []syntax.Node) bool {
	last := len(statements) - 1
	return last >= 0 && isExpression(statements[last])
}

func (r *replacer) lambdaParam(n syntax.Node) syntax.Node {
	if n.Text == "_" {
		n.Text = r.fresh()
	}
	return n
}

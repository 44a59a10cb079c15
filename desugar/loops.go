package desugar

import (
	"slices"

	"newel/syntax"
)

// comprehension makes the calls that stand for a for expression.
type comprehension struct {
	maker
	fresh       func() string
	inner, last string // the methods of generators with another one behind them, and of the last one
	body        syntax.Node
}

func (r *replacer) loop(n syntax.Node) syntax.Node {
	last := len(n.Kids) - 1
	c := comprehension{maker: maker{n.At}, fresh: r.fresh, inner: "foreach", last: "foreach", body: n.Kids[last]}
	if n.Num == 1 {
		c.inner, c.last = "flatMap", "map"
	}
	return c.calls(n.Kids[:last])
}

// calls returns what stands for enumerators, the first of which is a generator, and the body.
func (c comprehension) calls(enumerators []syntax.Node) syntax.Node {
	pattern, source := enumerators[0].Kids[0], enumerators[0].Kids[1]
	bindings, rest := divided(enumerators[1:])
	for len(rest) > 0 && rest[0].Kind == syntax.SGuard {
		source = c.call(source, "withFilter", c.lambda(pattern, func() syntax.Node {
			return c.let(bindings, rest[0].Kids[0])
		}))
		// What the guard stands behind is bound again behind it.
		bindings, rest = divided(slices.Concat(bindings, rest[1:]))
	}
	if len(rest) == 0 {
		return c.call(source, c.last, c.lambda(pattern, func() syntax.Node { return c.let(bindings, c.body) }))
	}
	return c.call(source, c.inner, c.lambda(pattern, func() syntax.Node { return c.let(bindings, c.calls(rest)) }))
}

// divided returns the bindings with which enumerators begin, and the other ones.
func divided(enumerators []syntax.Node) (bindings, rest []syntax.Node) {
	end := slices.IndexFunc(enumerators, func(n syntax.Node) bool { return n.Kind != syntax.SBinding })
	if end < 0 {
		end = len(enumerators)
	}
	return enumerators[:end], enumerators[end:]
}

// lambda makes `pattern => value`. Its own fresh name is taken ahead of those in the value.
func (c comprehension) lambda(pattern syntax.Node, value func() syntax.Node) syntax.Node {
	name, declared := pattern.Text, c.none()
	switch {
	case pattern.Kind == syntax.PBind && pattern.Kids[0].Kind == syntax.PWild:
	case pattern.Kind == syntax.PTyped && name != "_":
		declared = pattern.Kids[0]
	default:
		name = c.fresh()
		inner := value
		value = func() syntax.Node { return c.match(c.node(syntax.XName, name), pattern, inner()) }
	}
	return c.node(syntax.XLambda, "", c.node(syntax.SLambdaParam, name, declared), value())
}

// let makes a value behind bindings.
func (c comprehension) let(bindings []syntax.Node, value syntax.Node) syntax.Node {
	for _, b := range slices.Backward(bindings) {
		value = c.match(b.Kids[1], b.Kids[0], value)
	}
	return value
}

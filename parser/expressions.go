package parser

import (
	"newel/syntax"
	"newel/tokens"
)

func (p *parser) expr() syntax.Node {
	return nested(p, p.plainExpr)
}

func (p *parser) plainExpr() syntax.Node {
	at := p.token().At
	switch {
	case p.beginsLambda():
		return p.lambda()
	case p.skip("if"):
		return p.conditional(at)
	case p.skip("while"):
		return p.loop(at)
	case p.skip("for"):
		return p.comprehension(at)
	case p.skip("try"):
		return p.attempt(at)
	case p.skip("throw"):
		return node(syntax.XThrow, at, p.expr())
	case p.skip("return"):
		return p.result(at)
	}
	return p.assignment()
}

// beginsExpr reports whether an expression may begin here.
func (p *parser) beginsExpr() bool {
	t := p.token()
	switch t.Kind {
	case tokens.Name, tokens.Int, tokens.Long, tokens.Char, tokens.String, tokens.Start, tokens.Indent:
		return true
	case tokens.Op:
		return isPrefix(t)
	case tokens.Mark:
		switch t.Text {
		case "(", "{", "'{", "${", "_":
			return true
		}
	case tokens.Key:
		switch t.Text {
		case "false", "for", "if", "new", "null", "return", "super", "this", "throw", "true", "try", "while":
			return true
		}
	}
	return false
}

// isArrow reports whether the token i is the `=>` of a lambda: it is not the one behind the guard that is being read.
func (p *parser) isArrow(i int) bool {
	return i != p.arrow && p.isAt(i, "=>")
}

func (p *parser) beginsLambda() bool {
	switch {
	case p.is("_"):
		return true
	case p.is("("):
		return p.isArrow(p.match[p.at] + 1)
	}
	return p.isKind(tokens.Name) && p.isArrow(p.at+1)
}

func (p *parser) lambda() syntax.Node {
	at := p.token().At
	var params []syntax.Node
	if p.is("(") {
		params = group(p, p.lambdaParam)
	} else {
		name := p.lambdaName()
		params = []syntax.Node{named(syntax.SLambdaParam, at, name, p.empty(syntax.SNone))}
	}
	p.need("=>")
	body := p.expr()
	return node(syntax.XLambda, at, append(params, body)...)
}

func (p *parser) lambdaParam() syntax.Node {
	at := p.token().At
	name := p.lambdaName()
	return named(syntax.SLambdaParam, at, name, p.optional(":", p.orType))
}

func (p *parser) lambdaName() string {
	if p.skip("_") {
		return "_"
	}
	return p.name()
}

func (p *parser) conditional(at int) syntax.Node {
	condition := p.condition("then")
	then := p.expr()
	otherwise := p.empty(syntax.SNone)
	if p.skipBehindLines("else") {
		otherwise = p.expr()
	}
	return node(syntax.XIf, at, condition, then, otherwise)
}

// condition reads a condition and the keyword behind it, which may be left out behind parentheses.
func (p *parser) condition(key string) syntax.Node {
	if p.skip("(") {
		n := p.expr()
		p.need(")")
		p.skip(key)
		return n
	}
	n := p.expr()
	p.need(key)
	return n
}

func (p *parser) loop(at int) syntax.Node {
	condition := p.condition("do")
	body := p.expr()
	return node(syntax.XWhile, at, condition, body)
}

// attempt reads what stands behind `try`.
func (p *parser) attempt(at int) syntax.Node {
	body := p.expr()
	cases := p.empty(syntax.SCases)
	if p.skipBehindLines("catch") {
		cases = p.catches()
	}
	finally := p.empty(syntax.SNone)
	if p.skipBehindLines("finally") {
		finally = p.expr()
	}
	return node(syntax.XTry, at, body, cases, finally)
}

// result reads what stands behind `return`.
func (p *parser) result(at int) syntax.Node {
	if p.beginsExpr() {
		return node(syntax.XReturn, at, p.expr())
	}
	return node(syntax.XReturn, at, p.empty(syntax.SNone))
}

// Nums of XFor.
const (
	isDo = iota
	isYield
)

// comprehension reads what stands behind `for`.
func (p *parser) comprehension(at int) syntax.Node {
	kids := p.enumerators()
	num := int64(isDo)
	if p.skip("yield") {
		num = isYield
	} else {
		p.skip("do")
	}
	body := p.expr()
	n := node(syntax.XFor, at, append(kids, body)...)
	n.Num = num
	return n
}

// enumerators reads what a for goes through. Without brackets it ends in front of a keyword.
func (p *parser) enumerators() []syntax.Node {
	last := ""
	switch {
	case p.is("{"):
		last = "}"
	case p.is("(") && !p.patternInParentheses():
		last = ")"
	default:
		return p.enumeratorsUntil(func() bool { return p.is("yield") || p.is("do") })
	}
	p.at++
	kids := p.enumeratorsUntil(func() bool { return p.is(last) })
	p.at++
	return kids
}

// patternInParentheses reports whether the parentheses behind `for` are those of a pattern: they do not begin with a line end, and no generator stands inside of them.
func (p *parser) patternInParentheses() bool {
	if p.isAt(p.at+1, ";") {
		return false
	}
	for i := p.at; i < p.match[p.at]; i++ {
		if p.isAt(i, "<-") {
			return false
		}
	}
	return true
}

func (p *parser) enumeratorsUntil(ends func() bool) []syntax.Node {
	p.skipLines()
	l := []syntax.Node{p.generator()}
	for {
		behindLines := p.skipLines()
		switch {
		case ends():
			return l
		case !behindLines && !p.is("if"):
			p.wrong()
		}
		n := p.enumerator()
		l = append(l, n)
	}
}

func (p *parser) generator() syntax.Node {
	pattern := p.pattern()
	p.need("<-")
	value := p.expr()
	return node(syntax.SGenerator, pattern.At, pattern, value)
}

// enumerator reads a generator, a binding or a guard.
func (p *parser) enumerator() syntax.Node {
	at := p.token().At
	if p.skip("if") {
		return node(syntax.SGuard, at, p.expr())
	}
	pattern := p.pattern()
	kind := syntax.SBinding
	if !p.skip("=") {
		p.need("<-")
		kind = syntax.SGenerator
	}
	value := p.expr()
	return node(kind, pattern.At, pattern, value)
}

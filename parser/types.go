package parser

import (
	"newel/api"
	"newel/syntax"
)

func (p *parser) typ() syntax.Node {
	return nested(p, p.plainType)
}

func (p *parser) plainType() syntax.Node {
	if p.is("[") {
		return p.typeLambda()
	}
	if p.is("(") && p.isAt(p.match[p.at]+1, "=>") {
		return p.functionType()
	}
	n := p.orType()
	if p.skip("=>") {
		result := p.typ()
		return node(syntax.TFunction, n.At, n, result)
	}
	if p.skip("match") {
		return p.matchType(n)
	}
	return n
}

// typeLambda reads a type function.
func (p *parser) typeLambda() syntax.Node {
	names := p.names()
	p.need("=>>")
	body := p.typ()
	return node(syntax.TLambda, names.At, names, body)
}

// functionType reads the type of functions whose parameters are written in parentheses.
func (p *parser) functionType() syntax.Node {
	at := p.token().At
	kids := group(p, p.typ)
	p.need("=>")
	result := p.typ()
	return node(syntax.TFunction, at, append(kids, result)...)
}

// matchType reads the cases of a match type behind its keyword.
func (p *parser) matchType(scrutinee syntax.Node) syntax.Node {
	p.open()
	cases := someLines(p, p.typeCase, p.closes)
	p.close()
	return node(syntax.TMatch, scrutinee.At, append([]syntax.Node{scrutinee}, cases...)...)
}

func (p *parser) typeCase() syntax.Node {
	at := p.need("case").At
	pattern := p.orType()
	p.need("=>")
	body := p.typ()
	return node(syntax.TCase, at, pattern, body)
}

func (p *parser) orType() syntax.Node {
	n := p.andType()
	for p.skip("|") {
		right := p.andType()
		n = node(syntax.TOr, n.At, n, right)
	}
	return n
}

// patternType reads the type in a pattern. It goes on behind a `|` if a type stands there, and no other pattern.
func (p *parser) patternType() syntax.Node {
	n := p.andType()
	for p.is("|") {
		right, ok := p.alternative()
		if !ok {
			break
		}
		n = node(syntax.TOr, n.At, n, right)
	}
	return n
}

// alternative reads a `|` and a type. If no type stands there, it reads nothing: there may be a pattern.
func (p *parser) alternative() (n syntax.Node, ok bool) {
	at, depth := p.at, p.depth
	defer func() {
		if _, isFault := recover().(api.Fault); isFault {
			p.at, p.depth = at, depth
			n, ok = syntax.Node{}, false
		}
	}()
	p.need("|")
	n = p.andType()
	if p.is(":") || p.is("@") || p.is("(") {
		// These go on behind the names of patterns, but not behind a type in one.
		p.wrong()
	}
	return n, true
}

func (p *parser) andType() syntax.Node {
	n := p.simpleType()
	for p.skip("&") {
		right := p.simpleType()
		n = node(syntax.TAnd, n.At, n, right)
	}
	return n
}

func (p *parser) simpleType() syntax.Node {
	return p.appliedType(p.pathPoint)
}

// pathPoint goes on behind the point of a path, if one stands here.
func (p *parser) pathPoint() bool {
	return p.skip(".")
}

// appliedType reads a type in parentheses, a name or a path, with arguments. The function goes on behind a point of the path.
func (p *parser) appliedType(point func() bool) syntax.Node {
	n := p.plainSimpleType(point)
	for p.is("[") {
		args := some(p, p.typeArg)
		n = node(syntax.TApply, n.At, append([]syntax.Node{n}, args...)...)
	}
	return n
}

func (p *parser) plainSimpleType(point func() bool) syntax.Node {
	at := p.token().At
	if p.skip("(") {
		n := p.typ()
		n.At = at
		p.need(")")
		return n
	}
	if p.skip("this") {
		p.need(".")
		return p.memberType(node(syntax.XThis, at), point)
	}
	name := p.name()
	if point() {
		return p.memberType(named(syntax.XName, at, name), point)
	}
	return named(syntax.TName, at, name)
}

// memberType reads what stands behind a path and a point: a name, more of the path, or `type`.
func (p *parser) memberType(path syntax.Node, point func() bool) syntax.Node {
	for !p.skip("type") {
		name := p.name()
		if !point() {
			return named(syntax.TSelect, path.At, name, path)
		}
		path = named(syntax.XSelect, path.At, name, path)
	}
	return node(syntax.TSingle, path.At, path)
}

// typeArg reads an argument of a type: a type, or `_` for any one between bounds.
func (p *parser) typeArg() syntax.Node {
	at := p.token().At
	if !p.skip("_") {
		return p.typ()
	}
	low := p.optional(">:", p.typ)
	high := p.optional("<:", p.typ)
	return node(syntax.TWild, at, low, high)
}

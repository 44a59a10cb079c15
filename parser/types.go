package parser

import (
	"newel/syntax"
	"newel/tokens"
)

func (p *parser) typ() syntax.Node {
	return nested(p, p.plainType)
}

func (p *parser) plainType() syntax.Node {
	if p.is("[") {
		return p.typeLambda()
	}
	if p.is("(") && p.isAt(p.match[p.at]+1, "=>") {
		return p.functionType()
	}
	n := p.orType()
	if p.skip("=>") {
		result := p.typ()
		return node(syntax.TFunction, n.At, n, result)
	}
	if p.skip("match") {
		return p.matchType(n)
	}
	return n
}

// typeLambda reads a type function.
func (p *parser) typeLambda() syntax.Node {
	names := p.names()
	p.need("=>>")
	body := p.typ()
	return node(syntax.TLambda, names.At, names, body)
}

// functionType reads the type of functions whose parameters are written in parentheses.
func (p *parser) functionType() syntax.Node {
	at := p.token().At
	kids := group(p, p.typ)
	p.need("=>")
	result := p.typ()
	return node(syntax.TFunction, at, append(kids, result)...)
}

// matchType reads the cases of a match type behind its keyword.
func (p *parser) matchType(scrutinee syntax.Node) syntax.Node {
	p.open()
	cases := someLines(p, p.typeCase, p.closes)
	p.close()
	return node(syntax.TMatch, scrutinee.At, append([]syntax.Node{scrutinee}, cases...)...)
}

func (p *parser) typeCase() syntax.Node {
	at := p.need("case").At
	pattern := p.orType()
	p.need("=>")
	body := p.typ()
	return node(syntax.TCase, at, pattern, body)
}

func (p *parser) orType() syntax.Node {
	return p.alternatives(func() bool { return true })
}

// patternType reads the type in a pattern, behind which other patterns may stand.
func (p *parser) patternType() syntax.Node {
	return p.alternatives(func() bool { return !p.onlyPattern(p.at + 1) })
}

// alternatives reads a union, as long as what stands behind its operators is a type.
func (p *parser) alternatives(isType func() bool) syntax.Node {
	n := p.andType()
	for p.is("|") && isType() {
		p.at++
		right := p.andType()
		n = node(syntax.TOr, n.At, n, right)
	}
	return n
}

// onlyPattern reports whether the tokens from i on begin a pattern and no type.
func (p *parser) onlyPattern(i int) bool {
	for p.isAt(i, "(") {
		i++
	}
	if p.isAt(i, "this") {
		return false
	}
	if p.list[i].Kind != tokens.Name {
		return true
	}
	for p.isAt(i+1, ".") && p.list[i+2].Kind == tokens.Name {
		i += 2
	}
	return p.isAt(i+1, ":") || p.isAt(i+1, "@") || p.isAt(i+1, "(")
}

func (p *parser) andType() syntax.Node {
	n := p.simpleType()
	for p.skip("&") {
		right := p.simpleType()
		n = node(syntax.TAnd, n.At, n, right)
	}
	return n
}

func (p *parser) simpleType() syntax.Node {
	n := p.plainSimpleType()
	for p.is("[") {
		args := some(p, p.typeArg)
		n = node(syntax.TApply, n.At, append([]syntax.Node{n}, args...)...)
	}
	return n
}

// plainSimpleType reads a type in parentheses, a name or a path.
func (p *parser) plainSimpleType() syntax.Node {
	at := p.token().At
	if p.skip("(") {
		n := p.typ()
		p.need(")")
		return n
	}
	if p.skip("this") {
		p.need(".")
		return p.memberType(node(syntax.XThis, at))
	}
	name := p.name()
	if p.skip(".") {
		return p.memberType(named(syntax.XName, at, name))
	}
	return named(syntax.TName, at, name)
}

// memberType reads what stands behind a path and a point: a name, more of the path, or `type`.
func (p *parser) memberType(path syntax.Node) syntax.Node {
	for !p.skip("type") {
		name := p.name()
		if !p.skip(".") {
			return named(syntax.TSelect, path.At, name, path)
		}
		path = named(syntax.XSelect, path.At, name, path)
	}
	return node(syntax.TSingle, path.At, path)
}

// typeArg reads an argument of a type: a type, or `_` for any one between bounds.
func (p *parser) typeArg() syntax.Node {
	at := p.token().At
	if !p.skip("_") {
		return p.typ()
	}
	low := p.optional(">:", p.typ)
	high := p.optional("<:", p.typ)
	return node(syntax.TWild, at, low, high)
}

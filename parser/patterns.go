package parser

import (
	"strings"

	"newel/syntax"
	"newel/tokens"
)

func (p *parser) pattern() syntax.Node {
	return nested(p, p.plainPattern)
}

// plainPattern reads a pattern, or several ones one of which has to match.
func (p *parser) plainPattern() syntax.Node {
	l := list(p, p.onePattern, "|")
	if len(l) == 1 {
		return l[0]
	}
	return node(syntax.PAlt, l[0].At, l...)
}

func (p *parser) onePattern() syntax.Node {
	t := p.token()
	if n, ok := p.literal(); ok {
		return node(syntax.PLiteral, t.At, n)
	}
	switch {
	case p.skip("_"):
		if p.skip(":") {
			return named(syntax.PTyped, t.At, "_", p.patternType())
		}
		return node(syntax.PWild, t.At)
	case p.skip("-"):
		return p.negative(t.At)
	case p.skip("("):
		if p.skip(")") {
			return node(syntax.PLiteral, t.At, node(syntax.XUnit, t.At))
		}
		n := p.pattern()
		n.At = t.At
		p.need(")")
		return n
	}
	return p.namedPattern()
}

// negative reads the number behind a minus.
func (p *parser) negative(at int) syntax.Node {
	if !p.isKind(tokens.Int) && !p.isKind(tokens.Long) {
		return p.wrong()
	}
	n, _ := p.literal()
	return node(syntax.PLiteral, at, named(syntax.XPrefix, at, "-", n))
}

// namedPattern reads a pattern that begins with a name.
func (p *parser) namedPattern() syntax.Node {
	at := p.token().At
	name := p.name()
	switch {
	case p.skip("@"):
		kid := p.onePattern()
		return named(syntax.PBind, at, name, kid)
	case p.skip(":"):
		return named(syntax.PTyped, at, name, p.patternType())
	case p.is("(") || p.is("."):
	case isVariable(name):
		return named(syntax.PBind, at, name, p.empty(syntax.PWild))
	}
	path := []string{name}
	if p.skip(".") {
		path = append(path, list(p, p.name, ".")...)
	}
	text := strings.Join(path, ".")
	if p.is("(") {
		return named(syntax.PApply, at, text, group(p, p.pattern)...)
	}
	return named(syntax.PStable, at, text)
}

// isVariable reports whether a name alone is that of a variable.
func isVariable(name string) bool {
	return name[0] == '_' || name[0] >= 'a' && name[0] <= 'z'
}

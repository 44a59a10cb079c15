package parser

import (
	"slices"

	"newel/api"
	"newel/syntax"
	"newel/tokens"
)

// unit reads a whole text of definitions.
func (p *parser) unit() syntax.Node {
	at := p.token().At
	return node(syntax.SUnit, at, lines(p, p.definition, p.stops)...)
}

// statement reads a definition or an expression.
func (p *parser) statement() syntax.Node {
	return nested(p, p.plainStatement)
}

func (p *parser) plainStatement() syntax.Node {
	if p.defines() {
		return p.definition()
	}
	return p.expr()
}

// defines reports whether a definition begins here.
func (p *parser) defines() bool {
	t := p.token()
	if t.Kind != tokens.Key {
		return false
	}
	switch t.Text {
	case "import", "extension", "case", "class", "trait", "object", "enum", "def", "lazy", "val", "var", "type", "given":
		return true
	}
	return modifier(t.Text) != 0
}

func (p *parser) definition() syntax.Node {
	if p.is("import") {
		return p.imports()
	}
	if p.is("extension") {
		return p.extension()
	}
	mods := p.mods()
	// The rules ask whether this is the keyword, and not a string of these characters.
	switch p.token().Text {
	case "case", "class", "trait", "object", "enum":
		return p.class(mods)
	case "def":
		return p.def(mods)
	case "lazy", "val", "var":
		return p.val(mods)
	case "type":
		return p.typeDefinition(mods)
	case "given":
		return p.given(mods)
	}
	return p.wrong()
}

func (p *parser) imports() syntax.Node {
	at := p.need("import").At
	path := p.name()
	for p.skip(".") {
		if p.skip("*") {
			path += ".*"
			break
		}
		path += "." + p.name()
	}
	return named(syntax.SImport, at, path)
}

// modifier returns the flag of a modifier, or 0.
func modifier(key string) int64 {
	switch key {
	case "abstract":
		return api.Abstract
	case "final":
		return api.Final
	case "sealed":
		return api.Sealed
	case "private":
		return api.Private
	case "override":
		return api.Override
	case "volatile":
		return api.Volatile
	case "inline":
		return api.Inline
	}
	return 0
}

func (p *parser) mods() syntax.Node {
	n := p.empty(syntax.SMods)
	for p.isKind(tokens.Key) {
		flag := modifier(p.token().Text)
		if flag == 0 {
			break
		}
		if n.Num&flag != 0 {
			p.wrong()
		}
		n.Num |= flag
		p.at++
	}
	return n
}

// Nums of SClass.
const (
	isClass = iota
	isTrait
	isObject
	isCaseClass
	isCaseObject
	isEnum
)

// class reads a class, a trait, an object or an enum.
func (p *parser) class(mods syntax.Node) syntax.Node {
	num := p.classWord()
	name := p.name()
	names, lists := p.empty(syntax.SNames), p.empty(syntax.SLists)
	if num != isObject && num != isCaseObject {
		names, lists = p.namesAndLists()
	}
	parents := p.parents()
	body := p.classBody(num)
	n := named(syntax.SClass, mods.At, name, mods, names, lists, parents, body)
	n.Num = num
	return n
}

// classWord reads the keywords of a class, and returns its Num.
func (p *parser) classWord() int64 {
	if p.skip("case") {
		if p.skip("object") {
			return isCaseObject
		}
		p.need("class")
		return isCaseClass
	}
	switch {
	case p.skip("trait"):
		return isTrait
	case p.skip("object"):
		return isObject
	case p.skip("enum"):
		return isEnum
	}
	p.need("class")
	return isClass
}

// namesAndLists reads type parameters and lists of parameters.
func (p *parser) namesAndLists() (names, lists syntax.Node) {
	names = p.names()
	lists = p.lists()
	return names, lists
}

// classBody reads the body of a class, which only an enum must have.
func (p *parser) classBody(num int64) syntax.Node {
	switch {
	case num == isEnum:
		at := p.token().At
		p.openBody()
		parts := lines(p, p.enumStatement, p.closes)
		p.close()
		return node(syntax.SBody, at, slices.Concat(parts...)...)
	case p.is("{") || p.is(":"):
		return p.body()
	}
	return p.empty(syntax.SNone)
}

// openBody goes on behind the beginning of a body.
func (p *parser) openBody() {
	if p.skip(":") && !p.isKind(tokens.Indent) || !p.opens() {
		p.wrong()
	}
	p.at++
}

func (p *parser) body() syntax.Node {
	at := p.token().At
	p.openBody()
	kids := lines(p, p.statement, p.closes)
	p.close()
	return node(syntax.SBody, at, kids...)
}

// enumStatement reads a statement, or cases of an enum.
func (p *parser) enumStatement() []syntax.Node {
	if p.is("case") && !p.isAt(p.at+1, "class") && !p.isAt(p.at+1, "object") {
		return nested(p, p.enumCases)
	}
	return []syntax.Node{p.statement()}
}

func (p *parser) enumCases() []syntax.Node {
	at := p.need("case").At
	first := p.enumName()
	if !p.is(",") {
		first.At = at
		names, lists := p.namesAndLists()
		parents := p.parents()
		first.Kids = []syntax.Node{names, lists, parents}
		return []syntax.Node{first}
	}
	p.at++
	return append([]syntax.Node{first}, list(p, p.enumName, ",")...)
}

// enumName reads the name of a case that has nothing else.
func (p *parser) enumName() syntax.Node {
	at := p.token().At
	name := p.name()
	return named(syntax.SEnumCase, at, name, p.empty(syntax.SNames), p.empty(syntax.SLists), p.empty(syntax.SParents))
}

// parents reads what a class extends.
func (p *parser) parents() syntax.Node {
	n := p.empty(syntax.SParents)
	if p.skip("extends") {
		n.Kids = list(p, p.parent, "with", ",")
	}
	return n
}

func (p *parser) parent() syntax.Node {
	t := p.simpleType()
	n := node(syntax.SParent, t.At, t)
	if p.is("(") {
		p.parentArgs(&n)
	}
	return n
}

// parentArgs reads the arguments of a parent.
func (p *parser) parentArgs(parent *syntax.Node) {
	parent.Num = 1
	parent.Kids = append(parent.Kids, group(p, p.expr)...)
}

func (p *parser) def(mods syntax.Node) syntax.Node {
	p.need("def")
	name := p.id()
	names, lists := p.namesAndLists()
	result := p.optional(":", p.typ)
	value := p.optional("=", p.expr)
	return named(syntax.SDef, mods.At, name, mods, names, lists, result, value)
}

// Nums of SVal.
const (
	isVal = iota
	isVar
	isLazy
)

func (p *parser) val(mods syntax.Node) syntax.Node {
	num := int64(isVal)
	if p.skip("var") {
		num = isVar
	} else {
		if p.skip("lazy") {
			num = isLazy
		}
		p.need("val")
	}
	name := p.name()
	result := p.optional(":", p.typ)
	value := p.optional("=", p.expr)
	n := named(syntax.SVal, mods.At, name, mods, result, value)
	n.Num = num
	return n
}

// typeDefinition reads a type member: an alias, or one with bounds.
func (p *parser) typeDefinition(mods syntax.Node) syntax.Node {
	p.need("type")
	name := p.name()
	names := p.names()
	low := p.optional(">:", p.typ)
	high := p.optional("<:", p.typ)
	alias := p.empty(syntax.SNone)
	if low.Kind == syntax.SNone && high.Kind == syntax.SNone {
		alias = p.optional("=", p.typ)
	}
	return named(syntax.SType, mods.At, name, mods, names, low, high, alias)
}

func (p *parser) given(mods syntax.Node) syntax.Node {
	p.need("given")
	name, names, lists := "", p.empty(syntax.SNames), p.empty(syntax.SLists)
	if p.hasGivenName() {
		name = p.name()
		names, lists = p.namesAndLists()
		p.need(":")
	}
	result := p.typ()
	p.need("=")
	value := p.expr()
	return named(syntax.SGiven, mods.At, name, mods, names, lists, result, value)
}

// hasGivenName reports whether the name of a given stands here, and not its type.
func (p *parser) hasGivenName() bool {
	if !p.isKind(tokens.Name) {
		return false
	}
	behind := p.at + 1
	if p.isAt(behind, "[") {
		behind = p.match[behind] + 1
	}
	return p.isAt(behind, ":") || p.isAt(behind, "(")
}

func (p *parser) extension() syntax.Node {
	at := p.need("extension").At
	names := p.names()
	p.need("(")
	param := p.param()
	p.need(")")
	kids := []syntax.Node{names, param}
	if p.is("{") || p.is(":") {
		p.openBody()
		kids = append(kids, p.extensionDefs()...)
	} else {
		kids = append(kids, p.extensionDef())
	}
	return node(syntax.SExtension, at, kids...)
}

// extensionDefs reads one or more methods, up to the end of the body.
func (p *parser) extensionDefs() []syntax.Node {
	defs := someLines(p, p.extensionDef, p.closes)
	p.close()
	return defs
}

func (p *parser) extensionDef() syntax.Node {
	mods := p.mods()
	return p.def(mods)
}

// names reads type parameters, if there are some.
func (p *parser) names() syntax.Node {
	n := p.empty(syntax.SNames)
	if p.is("[") {
		n.Kids = some(p, p.typeParam)
	}
	return n
}

func (p *parser) typeParam() syntax.Node {
	n := p.empty(syntax.STParam)
	if p.skip("+") {
		n.Num = api.Covariant
	} else if p.skip("-") {
		n.Num = api.Contravariant
	}
	n.Text = p.name()
	var holes []syntax.Node
	if p.is("[") {
		holes = some(p, p.hole)
	}
	low := p.optional(">:", p.typ)
	high := p.optional("<:", p.typ)
	n.Kids = append([]syntax.Node{low, high}, holes...)
	return n
}

// hole reads the `_` that stands for a parameter of a type parameter.
func (p *parser) hole() syntax.Node {
	return node(syntax.SNone, p.need("_").At)
}

// lists reads lists of parameters, if there are some.
func (p *parser) lists() syntax.Node {
	n := p.empty(syntax.SLists)
	for p.is("(") {
		n.Kids = append(n.Kids, p.params())
	}
	return n
}

func (p *parser) params() syntax.Node {
	n := node(syntax.SParams, p.need("(").At)
	if p.skip("using") {
		n.Num = 1
	}
	if !p.is(")") {
		n.Kids = list(p, p.param, ",")
	}
	p.need(")")
	return n
}

// What Num of SParam is the sum of.
const (
	isByName   = 1
	isRepeated = 2
	isValParam = 4
	isVarParam = 8
)

func (p *parser) param() syntax.Node {
	mods := p.mods()
	var num int64
	if p.skip("val") {
		num = isValParam
	} else if p.skip("var") {
		num = isVarParam
	}
	name := p.name()
	p.need(":")
	isCode := p.skip("=>")
	result := p.typ()
	if isCode {
		num += isByName
	} else if p.skip("*") {
		num += isRepeated
	}
	value := p.optional("=", p.expr)
	n := named(syntax.SParam, mods.At, name, mods, result, value)
	n.Num = num
	return n
}

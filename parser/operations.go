package parser

import (
	"strconv"

	"newel/api"
	"newel/syntax"
	"newel/tokens"
)

// assignment reads an operation, or an assignment.
func (p *parser) assignment() syntax.Node {
	left := p.operation()
	t := p.token()
	if !p.is("=") && (t.Kind != tokens.Op || !tokens.Assigns(t.Text)) {
		return left
	}
	p.at++
	right := p.expr()
	return named(syntax.XAssign, left.At, t.Text, left, right)
}

func (p *parser) operation() syntax.Node {
	n := p.infix(0, false)
	for p.skip("match") {
		cases := p.cases()
		n = node(syntax.XMatch, n.At, append([]syntax.Node{n}, cases...)...)
	}
	return n
}

// infix reads operands, and operators of a precedence that is not less than least. If right, this is the right operand of an operator of this precedence that associates to the right.
func (p *parser) infix(least int, right bool) syntax.Node {
	n := p.prefix()
	level := -1 // the precedence of the last operator
	for {
		t := p.token()
		if t.Kind != tokens.Op || tokens.Assigns(t.Text) {
			return n
		}
		rank, isRight := tokens.Precedence(t.Text), tokens.Right(t.Text)
		if rank < least {
			return n
		}
		if isRight && rank == level || !isRight && right && rank == least {
			p.wrong()
		}
		p.at++
		level = rank
		operand := p.rightOperand(rank, isRight)
		n = named(syntax.XInfix, n.At, t.Text, n, operand)
	}
}

// rightOperand reads what stands behind an operator.
func (p *parser) rightOperand(rank int, isRight bool) syntax.Node {
	return nested(p, func() syntax.Node {
		if isRight {
			return p.infix(rank, true)
		}
		return p.infix(rank+1, false)
	})
}

// prefix reads an operand. What stands behind a prefix operator is an expression in another one.
func (p *parser) prefix() syntax.Node {
	t := p.token()
	if !isPrefix(t) {
		return p.simple()
	}
	p.at++
	operand := nested(p, p.prefix)
	return named(syntax.XPrefix, t.At, t.Text, operand)
}

func isPrefix(t tokens.Token) bool {
	if t.Kind != tokens.Op {
		return false
	}
	return t.Text == "-" || t.Text == "!" || t.Text == "~" || t.Text == "+"
}

// simple reads an atom with selections, type arguments and arguments.
func (p *parser) simple() syntax.Node {
	n := p.atom()
	for {
		switch {
		case p.skip("."):
			n = named(syntax.XSelect, n.At, p.id(), n)
		case p.is("["):
			types := some(p, p.typ)
			n = node(syntax.XTypes, n.At, append([]syntax.Node{n}, types...)...)
		case p.is("("):
			n = p.application(n)
		case p.is("{"):
			n = node(syntax.XApply, n.At, n, p.block())
		default:
			return n
		}
	}
}

// application reads the arguments of a function.
func (p *parser) application(function syntax.Node) syntax.Node {
	p.need("(")
	n := node(syntax.XApply, function.At, function)
	if p.skip("using") {
		n.Num = 1
	}
	if !p.is(")") {
		n.Kids = append(n.Kids, list(p, p.argument, ",")...)
	}
	p.need(")")
	return n
}

func (p *parser) argument() syntax.Node {
	if !p.isKind(tokens.Name) || !p.isAt(p.at+1, "=") {
		return p.expr()
	}
	t := p.next()
	p.need("=")
	value := p.expr()
	return named(syntax.XNamed, t.At, t.Text, value)
}

func (p *parser) atom() syntax.Node {
	t := p.token()
	if n, ok := p.literal(); ok {
		return n
	}
	if p.opens() {
		return p.block()
	}
	switch t.Kind {
	case tokens.Name:
		p.at++
		return named(syntax.XName, t.At, t.Text)
	case tokens.Start:
		return p.interpolated()
	case tokens.Key:
		return p.keyAtom()
	case tokens.Mark:
		return p.markAtom()
	}
	return p.wrong()
}

// literal reads a literal of one token, if one stands here.
func (p *parser) literal() (syntax.Node, bool) {
	t := p.token()
	n := node(syntax.SNone, t.At)
	switch t.Kind {
	case tokens.Int:
		n.Kind = syntax.XInt
		n.Num = number(t.Text)
	case tokens.Long:
		n.Kind = syntax.XLong
		n.Num = number(t.Text)
	case tokens.Char:
		n.Kind = syntax.XChar
		n.Num = int64(t.Text[0])
	case tokens.String:
		n.Kind = syntax.XString
		n.Text = t.Text
	case tokens.Key:
		n.Kind = literalKey(t.Text)
	}
	if n.Kind == syntax.SNone {
		return n, false
	}
	p.at++
	return n, true
}

// number returns the number of digits, which layer 1 has found to be in its range.
func number(digits string) int64 {
	i, _ := strconv.ParseInt(digits, 10, 64)
	return i
}

// literalKey returns the kind of a literal that is a keyword, or SNone.
func literalKey(key string) int {
	switch key {
	case "true":
		return syntax.XTrue
	case "false":
		return syntax.XFalse
	case "null":
		return syntax.XNull
	}
	return syntax.SNone
}

// keyAtom reads an atom that begins with a keyword.
func (p *parser) keyAtom() syntax.Node {
	at := p.token().At
	switch {
	case p.skip("this"):
		return node(syntax.XThis, at)
	case p.skip("super"):
		return p.superMember(at)
	case p.skip("new"):
		return p.instance(at)
	}
	return p.wrong()
}

func (p *parser) superMember(at int) syntax.Node {
	class := ""
	if p.skip("[") {
		class = p.name()
		p.need("]")
	}
	p.need(".")
	return named(syntax.XSelect, at, p.id(), named(syntax.XSuper, at, class))
}

// instance reads what stands behind `new`.
func (p *parser) instance(at int) syntax.Node {
	parents := p.empty(syntax.SParents)
	parents.Kids = list(p, p.instanceParent, "with")
	body := p.empty(syntax.SNone)
	switch {
	case p.is("{") || p.is(":") && p.list[p.at+1].Kind == tokens.Indent:
		body = p.body()
	case p.is(":"):
		// A body could begin here, or the type of an expression in parentheses.
		p.remember(api.Fault{At: p.list[p.at+1].At, Code: api.ErrSyntax})
	}
	return node(syntax.XNew, at, parents, body)
}

// instanceParent reads a parent of a new object. What cannot be in one may be a selection from the object, or its application.
func (p *parser) instanceParent() syntax.Node {
	t := p.appliedType(p.instancePoint)
	n := node(syntax.SParent, t.At, t)
	if p.is("(") && !p.isAt(p.at+1, "using") {
		p.parentArgs(&n)
	}
	return n
}

// instancePoint goes on behind the point of a path in the type of a new object. A point in front of an Op selects from this.
func (p *parser) instancePoint() bool {
	if p.is(".") && p.list[p.at+1].Kind == tokens.Op {
		return false
	}
	return p.skip(".")
}

// markAtom reads an atom that begins with a mark, but for a block.
func (p *parser) markAtom() syntax.Node {
	switch {
	case p.is("("):
		return p.parentheses()
	case p.is("'{"):
		return p.code(syntax.XQuote)
	case p.is("${"):
		return p.code(syntax.XSplice)
	}
	return p.wrong()
}

func (p *parser) parentheses() syntax.Node {
	at := p.need("(").At
	if p.skip(")") {
		return node(syntax.XUnit, at)
	}
	n := p.expr()
	if p.skip(":") {
		n = node(syntax.XTyped, at, n, p.typ())
	}
	n.At = at
	p.need(")")
	return n
}

// code reads a quote or a splice.
func (p *parser) code(kind int) syntax.Node {
	at := p.next().At
	p.skipLines()
	block := p.empty(syntax.XBlock)
	block.Kids = lines(p, p.statement, p.closes)
	p.close()
	return node(kind, at, block)
}

// block reads a block in braces or by indentation.
func (p *parser) block() syntax.Node {
	at := p.token().At
	p.open()
	kids := lines(p, p.statement, p.closes)
	p.close()
	return node(syntax.XBlock, at, kids...)
}

// interpolated reads an interpolated string.
func (p *parser) interpolated() syntax.Node {
	t := p.next()
	kids := []syntax.Node{p.part()}
	for !p.isKind(tokens.End) {
		kids = append(kids, p.inserted())
		kids = append(kids, p.part())
	}
	p.at++
	return named(syntax.XInterp, t.At, t.Text, kids...)
}

// part reads the characters of an interpolated string in front of an expression or its end.
func (p *parser) part() syntax.Node {
	t := p.next()
	return named(syntax.XString, t.At, t.Text)
}

// inserted reads an expression in an interpolated string.
func (p *parser) inserted() syntax.Node {
	t := p.token()
	switch {
	case t.Kind == tokens.Name:
		p.at++
		return named(syntax.XName, t.At, t.Text)
	case p.skip("this"):
		return node(syntax.XThis, t.At)
	}
	p.need("${")
	n := p.expr()
	p.need("}")
	return n
}

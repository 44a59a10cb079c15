package parser

import (
	"newel/syntax"
	"newel/tokens"
)

// cases reads the cases of a match between an open and a close.
func (p *parser) cases() []syntax.Node {
	p.open()
	p.skipLines()
	l := []syntax.Node{p.clause()}
	for p.skipLines(); !p.closes(); p.skipLines() {
		n := p.clause()
		l = append(l, n)
	}
	p.close()
	return l
}

// catches reads the cases behind `catch`: a single one needs no open.
func (p *parser) catches() syntax.Node {
	at := p.token().At
	if p.is("case") {
		return node(syntax.SCases, at, p.clause())
	}
	return node(syntax.SCases, at, p.cases()...)
}

// clause reads a case.
func (p *parser) clause() syntax.Node {
	at := p.need("case").At
	pattern := p.pattern()
	guard := p.optional("if", p.guard)
	p.need("=>")
	body := p.caseBody()
	return node(syntax.SCase, at, pattern, guard, body)
}

// guard reads the condition of a case. The first `=>` behind it, outside of brackets, is that of the case: without this, `x => ..` would be taken for a lambda.
func (p *parser) guard() syntax.Node {
	around := p.arrow
	p.arrow = p.caseArrow()
	n := p.expr()
	p.arrow = around
	return n
}

// caseArrow returns the index of the `=>` behind a guard, or -1.
func (p *parser) caseArrow() int {
	for i := p.at; i < len(p.list) && !p.isAt(i, "case"); i++ {
		if p.isAt(i, "=>") {
			return i
		}
		i = max(i, p.match[i])
	}
	return -1
}

// caseBody reads a block, or statements up to the end of the case.
func (p *parser) caseBody() syntax.Node {
	if p.opens() && p.endsCase(p.match[p.at]+1) {
		return p.block()
	}
	block := p.empty(syntax.XBlock)
	if p.beginsStatement() {
		block.Kids = p.caseStatements()
	}
	if len(block.Kids) == 1 && !isDefinition(block.Kids[0]) {
		return block.Kids[0]
	}
	return block
}

// endsCase reports whether the token i may stand behind the block that is the body of a case.
func (p *parser) endsCase(i int) bool {
	kind := p.list[i].Kind
	return kind == tokens.Newline || kind == tokens.Stop || p.isAt(i, ";") || p.isAt(i, "case") || p.closesAt(i)
}

// caseStatements reads one or more statements of a case. They go on behind line ends, unless the case ends there, or something that it stands in goes on.
func (p *parser) caseStatements() []syntax.Node {
	var l []syntax.Node
	for {
		n := p.statement()
		l = append(l, n)
		behind := p.behindLines()
		if behind == p.at || p.endsStatements(behind) {
			return l
		}
		p.at = behind
	}
}

func (p *parser) endsStatements(i int) bool {
	if p.closesAt(i) || p.list[i].Kind == tokens.Stop {
		return true
	}
	if p.list[i].Kind != tokens.Key {
		return false
	}
	switch p.list[i].Text {
	case "case", "catch", "do", "else", "finally", "yield":
		return true
	}
	return false
}

// beginsStatement reports whether a statement of a case begins here. The keyword `case` begins the next case.
func (p *parser) beginsStatement() bool {
	return p.beginsExpr() || p.defines() && !p.is("case")
}

// isDefinition reports whether a statement is a definition.
func isDefinition(n syntax.Node) bool {
	return n.Kind < syntax.TName
}

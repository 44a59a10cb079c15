package parser

import (
	"newel/api"
	"newel/syntax"
	"newel/tokens"
)

// parser reads tokens. Its rules are methods that go on behind what they read, and leave by a panic with a fault.
type parser struct {
	list  []tokens.Token
	at    int   // of the token that is read next
	match []int // of a token that opens a bracket or an indentation, the one that closes it; of others 0
	depth int   // how many types, expressions, patterns and statements are being read

	arrow int // the index of the `=>` behind the guard that is being read, or -1

	tried api.Fault // the last one from left to right of the ways to read the tokens that have failed
}

func newParser(list []tokens.Token) *parser {
	p := &parser{list: list, match: make([]int, len(list)), arrow: -1}
	var open []int
	for i, t := range list {
		switch {
		case t.Kind == tokens.Indent, t.Kind == tokens.Mark && opensBracket(t.Text):
			open = append(open, i)
		case t.Kind == tokens.Outdent, t.Kind == tokens.Mark && closesBracket(t.Text):
			last := len(open) - 1
			p.match[open[last]] = i
			open = open[:last]
		}
	}
	return p
}

func opensBracket(mark string) bool {
	switch mark {
	case "(", "[", "{", "'{", "${":
		return true
	}
	return false
}

func closesBracket(mark string) bool {
	return mark == ")" || mark == "]" || mark == "}"
}

// fail leaves with a fault at the token that is read next, or with that of another way to read the same tokens, if this led further.
func (p *parser) fail(code api.Errno) {
	p.remember(api.Fault{At: p.token().At, Code: code})
	panic(p.tried)
}

// remember keeps a fault of one way to read the tokens, while there is another one, unless one led further.
func (p *parser) remember(f api.Fault) {
	if f.At > p.tried.At || f.At == p.tried.At && p.tried.Code != api.ErrDepth {
		p.tried = f
	}
}

// wrong leaves, as no rule goes on at the token that is read next. It returns nothing, but looks like a rule.
func (p *parser) wrong() syntax.Node {
	p.fail(api.ErrSyntax)
	return syntax.Node{}
}

// nested applies a rule one level deeper.
func nested[T any](p *parser, rule func() T) T {
	if p.depth > maxDepth {
		p.fail(api.ErrDepth)
	}
	p.depth++
	t := rule()
	p.depth--
	return t
}

// alone applies a rule to the whole text.
func (p *parser) alone(rule func() syntax.Node) syntax.Node {
	p.skipLines()
	n := rule()
	p.skipLines()
	if !p.stops() {
		p.wrong()
	}
	return n
}

// token returns the token that is read next.
func (p *parser) token() tokens.Token {
	return p.list[p.at]
}

// next goes on behind a token, and returns it.
func (p *parser) next() tokens.Token {
	t := p.list[p.at]
	p.at++
	return t
}

// isAt reports whether the token i is the keyword, mark or operator with a text.
func (p *parser) isAt(i int, text string) bool {
	t := p.list[i]
	return t.Text == text && (t.Kind == tokens.Key || t.Kind == tokens.Mark || t.Kind == tokens.Op)
}

func (p *parser) is(text string) bool {
	return p.isAt(p.at, text)
}

func (p *parser) isKind(kind int) bool {
	return p.list[p.at].Kind == kind
}

// skip goes on behind a keyword, mark or operator, if it stands here.
func (p *parser) skip(text string) bool {
	if !p.is(text) {
		return false
	}
	p.at++
	return true
}

// need goes on behind a keyword, mark or operator that must stand here.
func (p *parser) need(text string) tokens.Token {
	if !p.is(text) {
		p.wrong()
	}
	return p.next()
}

// name reads a Name.
func (p *parser) name() string {
	if !p.isKind(tokens.Name) {
		p.wrong()
	}
	return p.next().Text
}

// id reads a Name or an Op.
func (p *parser) id() string {
	if p.isKind(tokens.Op) {
		return p.next().Text
	}
	return p.name()
}

// opens reports whether an open stands here: a brace or an Indent.
func (p *parser) opens() bool {
	return p.is("{") || p.isKind(tokens.Indent)
}

// closes reports whether a close stands here.
func (p *parser) closes() bool {
	return p.closesAt(p.at)
}

func (p *parser) closesAt(i int) bool {
	return p.isAt(i, "}") || p.list[i].Kind == tokens.Outdent
}

func (p *parser) stops() bool {
	return p.isKind(tokens.Stop)
}

// open goes on behind an open.
func (p *parser) open() {
	if !p.opens() {
		p.wrong()
	}
	p.at++
}

// close goes on behind a close, at which lines have ended. It is of the kind of the open, since those of the tokens match.
func (p *parser) close() {
	p.at++
}

// behindLines returns the index of the first token that is no line end.
func (p *parser) behindLines() int {
	i := p.at
	for p.list[i].Kind == tokens.Newline || p.isAt(i, ";") {
		i++
	}
	return i
}

// skipLines goes on behind line ends, and reports whether there were some.
func (p *parser) skipLines() bool {
	from := p.at
	p.at = p.behindLines()
	return p.at > from
}

// skipBehindLines goes on behind a keyword, if it stands here or behind line ends.
func (p *parser) skipBehindLines(key string) bool {
	i := p.behindLines()
	if !p.isAt(i, key) {
		// This rule would have gone on at the line ends, which may be those of another one.
		p.remember(api.Fault{At: p.list[i].At, Code: api.ErrSyntax})
		return false
	}
	p.at = i + 1
	return true
}

// list reads one or more items with one of the marks between them.
func list[T any](p *parser, item func() T, marks ...string) []T {
	l := []T{item()}
	for p.skipOne(marks) {
		t := item()
		l = append(l, t)
	}
	return l
}

func (p *parser) skipOne(marks []string) bool {
	for _, m := range marks {
		if p.skip(m) {
			return true
		}
	}
	return false
}

// group reads any number of items in parentheses, with commas between them.
func group[T any](p *parser, item func() T) []T {
	p.need("(")
	var l []T
	if !p.is(")") {
		l = list(p, item, ",")
	}
	p.need(")")
	return l
}

// some reads one or more items in square brackets, with commas between them.
func some[T any](p *parser, item func() T) []T {
	p.need("[")
	l := list(p, item, ",")
	p.need("]")
	return l
}

// lines reads any number of items with line ends between them, up to the end.
func lines[T any](p *parser, item func() T, ends func() bool) []T {
	var l []T
	p.skipLines()
	for !ends() {
		t := item()
		l = append(l, t)
		if !p.skipLines() && !ends() {
			p.wrong()
		}
	}
	return l
}

// someLines reads items as lines does, but at least one.
func someLines[T any](p *parser, item func() T, ends func() bool) []T {
	p.skipLines()
	if ends() {
		p.wrong()
	}
	return lines(p, item, ends)
}

// node returns a node without a Text.
func node(kind, at int, kids ...syntax.Node) syntax.Node {
	return syntax.Node{Kind: kind, Kids: kids, At: at}
}

// named returns a node with a Text.
func named(kind, at int, text string, kids ...syntax.Node) syntax.Node {
	return syntax.Node{Kind: kind, Text: text, Kids: kids, At: at}
}

// empty returns a node for what is left out here.
func (p *parser) empty(kind int) syntax.Node {
	return syntax.Node{Kind: kind, At: p.token().At}
}

// optional applies a rule behind a keyword or mark, if this stands here.
func (p *parser) optional(text string, rule func() syntax.Node) syntax.Node {
	if p.skip(text) {
		return rule()
	}
	return p.empty(syntax.SNone)
}

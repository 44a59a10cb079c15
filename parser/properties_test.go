package parser

import (
	"math/rand"
	"strings"
	"testing"

	"newel/api"
	"newel/syntax"
	"newel/tokens"
)

// maker writes texts at random together with their trees. The same numbers give the same tree in both styles.
type maker struct {
	r        *rand.Rand
	indented bool
	left     int // how many parts it may still make
}

// made is a text and its tree.
type made struct {
	text string
	node syntax.Node
}

func (m *maker) one(n int) bool {
	m.left--
	return m.r.Intn(n) == 0
}

func (m *maker) small() bool {
	m.left--
	return m.left < 0
}

func (m *maker) pick(l ...string) string { return l[m.r.Intn(len(l))] }

func (m *maker) letter() string { return m.pick("a", "b", "x", "_y", "z1") }

func (m *maker) upper() string { return m.pick("A", "B", "List", "T1") }

func tree(kind int, text string, num int64, kids ...syntax.Node) syntax.Node {
	return syntax.Node{Kind: kind, Text: text, Num: num, Kids: kids}
}

var none = syntax.Node{}

func nameTree(text string) made { return made{text, tree(syntax.XName, text, 0)} }

// place says where a text stands: how deep it is indented, or that nothing may be indented.
type place struct {
	indent int
	flat   bool
}

var flat = place{flat: true}

func (p place) deeper() place { return place{p.indent + 2, p.flat} }

func (p place) line() string { return "\n" + strings.Repeat(" ", p.indent) }

// many makes texts with a mark between them.
func (m *maker) many(least, most int, mark string, f func() made) (string, []syntax.Node) {
	var texts []string
	var nodes []syntax.Node
	for range least + m.r.Intn(most-least+1) {
		d := f()
		texts = append(texts, d.text)
		nodes = append(nodes, d.node)
	}
	return strings.Join(texts, mark), nodes
}

// lines makes statements between an open and a close. Behind what is indented the next line begins.
func (m *maker) lines(p place, colon string, f func(place) made) (string, []syntax.Node) {
	between, first, last := m.pick("; ", "\n", ";\n; "), m.pick(" ", "\n", " ; "), m.pick(" ", "\n", "; ")
	if m.indented && !p.flat {
		text, nodes := m.many(1, 3, p.deeper().line(), func() made { return f(p.deeper()) })
		return colon + p.deeper().line() + text + p.line(), nodes
	}
	text, nodes := m.many(1, 3, between, func() made { return f(flat) })
	return " {" + first + text + last + "} ", nodes
}

// value makes what stands behind an opener: a block, or an expression.
func (m *maker) value(p place) made {
	if m.one(2) && !m.small() {
		text, nodes := m.lines(p, "", m.statement)
		return made{text, tree(syntax.XBlock, "", 0, nodes...)}
	}
	d := m.expr(p)
	if strings.HasSuffix(strings.TrimRight(d.text, " "), "\n") {
		return made{" " + d.text, d.node}
	}
	return made{" " + d.text + " ", d.node}
}

func (m *maker) statement(p place) made {
	if m.one(3) {
		return m.definition(p)
	}
	return m.expr(p)
}

// expr makes an expression. What has a keyword at its end stands in its place alone, operands in parentheses.
func (m *maker) expr(p place) made {
	if m.small() {
		return m.atom()
	}
	switch m.r.Intn(12) {
	case 0:
		a, b, c := m.operation(), m.value(p), m.value(p)
		return made{"if " + condition(a.text) + " then" + b.text + "else" + c.text, tree(syntax.XIf, "", 0, a.node, b.node, c.node)}
	case 1:
		a, b := m.operation(), m.value(p)
		return made{"while " + condition(a.text) + " do" + b.text, tree(syntax.XWhile, "", 0, a.node, b.node)}
	case 2:
		a, b := m.operation(), m.expr(flat)
		return made{"(if (" + a.text + ")" + m.pick(" ", " then ") + b.text + ")", tree(syntax.XIf, "", 0, a.node, b.node, none)}
	case 3:
		return m.lambda(p)
	case 4:
		return m.comprehension(p)
	case 5:
		return m.attempt(p)
	case 6:
		a := m.value(p)
		return made{"throw" + a.text, tree(syntax.XThrow, "", 0, a.node)}
	case 7:
		a := m.value(p)
		return made{"return" + a.text, tree(syntax.XReturn, "", 0, a.node)}
	case 8:
		a, op := m.operation(), m.pick("=", "=", "+=", "::=")
		if op != "=" { // no indentation begins behind it
			p = flat
		}
		b := m.value(p)
		return made{a.text + " " + op + b.text, tree(syntax.XAssign, op, 0, a.node, b.node)}
	case 9:
		a := m.operation()
		text, nodes := m.lines(p, "", m.clause)
		return made{a.text + " match" + text, tree(syntax.XMatch, "", 0, append([]syntax.Node{a.node}, nodes...)...)}
	}
	return m.operation()
}

// condition writes parentheses where the first ones would be taken for those of the condition.
func condition(text string) string {
	if text[0] == '(' {
		return "(" + text + ")"
	}
	return text
}

func (m *maker) lambda(p place) made {
	x := m.letter()
	if m.one(2) {
		a := m.value(p)
		return made{x + " =>" + a.text, tree(syntax.XLambda, "", 0, tree(syntax.SLambdaParam, x, 0, none), a.node)}
	}
	text, params := m.many(0, 2, ", ", func() made {
		t := m.orType()
		return made{x + ": " + t.text, tree(syntax.SLambdaParam, x, 0, t.node)}
	})
	a := m.value(p)
	return made{"(" + text + ") =>" + a.text, tree(syntax.XLambda, "", 0, append(params, a.node)...)}
}

func (m *maker) comprehension(p place) made {
	text, kids := m.many(1, 2, "; ", func() made {
		a, b := m.pattern(), m.operation()
		return made{a.text + " <- " + b.text, tree(syntax.SGenerator, "", 0, a.node, b.node)}
	})
	if m.one(2) {
		a := m.operation()
		text += m.pick(" if ", "; if ") + a.text
		kids = append(kids, tree(syntax.SGuard, "", 0, a.node))
	}
	word := m.pick("do", "yield")
	num := int64(0)
	if word == "yield" {
		num = 1
	}
	a := m.value(p)
	text = m.pick("for "+text+" ", "for ("+text+") ", "for { "+text+" } ", "for {\n"+text+"\n} ")
	return made{text + word + a.text, tree(syntax.XFor, "", num, append(kids, a.node)...)}
}

func (m *maker) attempt(p place) made {
	a := m.value(p)
	text, nodes := m.lines(p, "", m.clause)
	kids := []syntax.Node{a.node, tree(syntax.SCases, "", 0, nodes...), none}
	text = "try" + a.text + "catch" + text
	if m.one(2) {
		b := m.value(p)
		text += "finally" + b.text
		kids[2] = b.node
	}
	return made{text, tree(syntax.XTry, "", 0, kids...)}
}

func (m *maker) clause(p place) made {
	a, guard, text := m.pattern(), none, "case "
	text += a.text
	if m.one(3) {
		b := m.operation()
		text += " if " + b.text
		guard = b.node
	}
	if m.one(4) {
		b := m.expr(flat)
		block := tree(syntax.XBlock, "", 0, tree(syntax.SVal, "q", 0, tree(syntax.SMods, "", 0), none, tree(syntax.XInt, "", 1)), b.node)
		return made{text + " => val q = 1; " + b.text + " ", tree(syntax.SCase, "", 0, a.node, guard, block)}
	}
	b := m.value(p)
	return made{text + " =>" + b.text, tree(syntax.SCase, "", 0, a.node, guard, b.node)}
}

// operation makes operands and operators. It reads the tree off the operators.
func (m *maker) operation() made {
	var ops []string
	var texts []string
	var operands []syntax.Node
	for {
		d := m.operand()
		texts = append(texts, d.text)
		operands = append(operands, d.node)
		if m.one(2) || m.small() {
			break
		}
		op := m.pick("+", "-:", "*", "::", "<", "&&", "||", "==", "%")
		texts = append(texts, op)
		ops = append(ops, op)
	}
	if n, ok := infixTree(ops, operands); ok {
		return made{strings.Join(texts, " "), n}
	}
	return m.operand()
}

// infixTree splits operands at the operator that binds least.
func infixTree(ops []string, operands []syntax.Node) (syntax.Node, bool) {
	if len(ops) == 0 {
		return operands[0], true
	}
	at := 0
	for i, op := range ops {
		switch rank, least := tokens.Precedence(op), tokens.Precedence(ops[at]); {
		case rank < least:
			at = i
		case rank == least && tokens.Right(op) != tokens.Right(ops[at]):
			return none, false
		case rank == least && !tokens.Right(op):
			at = i
		}
	}
	a, ok := infixTree(ops[:at], operands[:at+1])
	b, ok2 := infixTree(ops[at+1:], operands[at+1:])
	return tree(syntax.XInfix, ops[at], 0, a, b), ok && ok2
}

func (m *maker) operand() made {
	if m.one(6) {
		op, d := m.pick("-", "!", "~", "+"), m.atom()
		return made{op + d.text, tree(syntax.XPrefix, op, 0, d.node)}
	}
	d := m.atom()
	for m.one(3) && !m.small() {
		d = m.suffix(d)
	}
	return d
}

func (m *maker) suffix(d made) made {
	switch m.r.Intn(4) {
	case 0:
		x := m.pick("y", "size")
		return made{d.text + "." + x, tree(syntax.XSelect, x, 0, d.node)}
	case 1:
		text, types := m.many(1, 2, ", ", m.typ)
		return made{d.text + "[" + text + "]", tree(syntax.XTypes, "", 0, append([]syntax.Node{d.node}, types...)...)}
	case 2:
		text, nodes := m.lines(flat, "", m.statement)
		return made{d.text + text, tree(syntax.XApply, "", 0, d.node, tree(syntax.XBlock, "", 0, nodes...))}
	}
	text, args := m.many(0, 2, ", ", func() made { return m.expr(flat) })
	for i := range args {
		// x = y is an argument with a name.
		if args[i].Kind == syntax.XAssign && args[i].Text == "=" {
			return d
		}
	}
	return made{d.text + "(" + text + ")", tree(syntax.XApply, "", 0, append([]syntax.Node{d.node}, args...)...)}
}

func (m *maker) atom() made {
	if m.small() {
		return nameTree(m.letter())
	}
	switch m.r.Intn(12) {
	case 0:
		return made{"12", tree(syntax.XInt, "", 12)}
	case 1:
		return made{"'\\n'", tree(syntax.XChar, "", 10)}
	case 2:
		return made{`"s\t"`, tree(syntax.XString, "s\t", 0)}
	case 3:
		return made{"()", tree(syntax.XUnit, "", 0)}
	case 4:
		return made{"this", tree(syntax.XThis, "", 0)}
	case 5:
		d := m.expr(flat)
		return made{"(" + d.text + ")", d.node}
	case 6:
		d, t := m.expr(flat), m.typ()
		return made{"(" + d.text + ": " + t.text + ")", tree(syntax.XTyped, "", 0, d.node, t.node)}
	case 7:
		d := m.expr(flat)
		return made{`s"a${` + d.text + `}"`, tree(syntax.XInterp, "s", 0, tree(syntax.XString, "a", 0), d.node, tree(syntax.XString, "", 0))}
	case 8:
		text, nodes := m.lines(flat, "", m.statement)
		return made{"'" + text[1:], tree(syntax.XQuote, "", 0, tree(syntax.XBlock, "", 0, nodes...))}
	case 9:
		text, nodes := m.lines(flat, "", m.statement)
		t := m.upper()
		parents := tree(syntax.SParents, "", 0, tree(syntax.SParent, "", 0, tree(syntax.TName, t, 0)))
		return made{"new " + t + text, tree(syntax.XNew, "", 0, parents, tree(syntax.SBody, "", 0, nodes...))}
	}
	return nameTree(m.letter())
}

func (m *maker) typ() made {
	if m.one(3) && !m.small() {
		text, params := m.many(0, 2, ", ", m.typ)
		d := m.typ()
		return made{"(" + text + ") => " + d.text, tree(syntax.TFunction, "", 0, append(params, d.node)...)}
	}
	return m.orType()
}

func (m *maker) orType() made {
	d := m.simpleType()
	for m.one(3) && !m.small() {
		e := m.simpleType()
		d = made{d.text + " | " + e.text, tree(syntax.TOr, "", 0, d.node, e.node)}
	}
	return d
}

func (m *maker) simpleType() made {
	x := m.upper()
	switch m.r.Intn(4) {
	case 0:
		if !m.small() {
			text, args := m.many(1, 2, ", ", m.typ)
			return made{x + "[" + text + "]", tree(syntax.TApply, "", 0, append([]syntax.Node{tree(syntax.TName, x, 0)}, args...)...)}
		}
	case 1:
		if !m.small() {
			d := m.typ()
			return made{"(" + d.text + ")", d.node}
		}
	case 2:
		return made{"a." + x, tree(syntax.TSelect, x, 0, nameTree("a").node)}
	}
	return made{x, tree(syntax.TName, x, 0)}
}

func (m *maker) pattern() made {
	x := m.letter()
	variable := made{x, tree(syntax.PBind, x, 0, tree(syntax.PWild, "", 0))}
	if m.small() {
		return variable
	}
	switch m.r.Intn(6) {
	case 0:
		t := m.simpleType()
		return made{x + ": " + t.text, tree(syntax.PTyped, x, 0, t.node)}
	case 1:
		return made{"-1", tree(syntax.PLiteral, "", 0, tree(syntax.XPrefix, "-", 0, tree(syntax.XInt, "", 1)))}
	case 2:
		text, kids := m.many(0, 2, ", ", m.pattern)
		return made{m.upper() + "(" + text + ")", none}.with(text, kids)
	case 3:
		return made{"(true | B.C)", tree(syntax.PAlt, "", 0, tree(syntax.PLiteral, "", 0, tree(syntax.XTrue, "", 0)), tree(syntax.PStable, "B.C", 0))}
	}
	return variable
}

// with makes the tree of an application.
func (d made) with(args string, kids []syntax.Node) made {
	path := strings.TrimSuffix(d.text, "("+args+")")
	return made{d.text, tree(syntax.PApply, path, 0, kids...)}
}

func (m *maker) definition(p place) made {
	mods := tree(syntax.SMods, "", 0)
	word := ""
	if m.one(4) {
		word, mods.Num = "private final ", api.Private|api.Final
	}
	names, lists, parents := tree(syntax.SNames, "", 0), tree(syntax.SLists, "", 0), tree(syntax.SParents, "", 0)
	x, t := m.letter(), m.typ()
	param := tree(syntax.SParam, "x", 0, tree(syntax.SMods, "", 0), t.node, none)
	list := tree(syntax.SLists, "", 0, tree(syntax.SParams, "", 0, param))
	switch m.r.Intn(6) {
	case 0:
		text, nodes := m.lines(p, ":", m.statement)
		kids := []syntax.Node{mods, names, list, parents, tree(syntax.SBody, "", 0, nodes...)}
		return made{word + "class " + x + "(x: " + t.text + ")" + text, tree(syntax.SClass, x, 0, kids...)}
	case 1:
		d := m.value(p)
		return made{word + "def " + x + "(x: " + t.text + "): " + t.text + " =" + d.text, tree(syntax.SDef, x, 0, mods, names, list, t.node, d.node)}
	case 2:
		return made{word + "type " + x + " = " + t.text, tree(syntax.SType, x, 0, mods, names, none, none, t.node)}
	case 3:
		d := m.value(p)
		return made{word + "given " + x + ": " + t.text + " =" + d.text, tree(syntax.SGiven, x, 0, mods, names, lists, t.node, d.node)}
	case 4:
		text, nodes := m.lines(p, ":", func(p place) made {
			d := m.value(p)
			none := tree(syntax.SMods, "", 0)
			return made{"def + =" + d.text, tree(syntax.SDef, "+", 0, none, names, lists, syntax.Node{}, d.node)}
		})
		return made{"extension (x: " + t.text + ")" + text, tree(syntax.SExtension, "", 0, append([]syntax.Node{names, param}, nodes...)...)}
	}
	d := m.value(p)
	return made{word + "val " + x + " =" + d.text, tree(syntax.SVal, x, 0, mods, none, d.node)}
}

// unit makes a unit of a seed in one of the styles.
func unit(seed int64, indented bool) made {
	m := &maker{r: rand.New(rand.NewSource(seed)), indented: indented, left: 60}
	text, nodes := m.many(1, 3, "\n", func() made { return m.definition(place{}) })
	return made{text, tree(syntax.SUnit, "", 0, nodes...)}
}

const seeds = 2000

func TestStyles(t *testing.T) {
	for seed := range int64(seeds) {
		for _, indented := range []bool{false, true} {
			want := unit(seed, indented)
			n, f := Parse(want.text)
			if f.Code != api.OK || !syntax.Equal(n, want.node) {
				a, _ := syntax.Text(n)
				b, _ := syntax.Text(want.node)
				t.Fatalf("seed %d: %v\n%s\n got %s\nwant %s", seed, f, want.text, a, b)
			}
		}
	}
}

// TestBlanks puts comments and blanks around the tokens of a text in one line.
func TestBlanks(t *testing.T) {
	for seed := range int64(seeds) {
		m := &maker{r: rand.New(rand.NewSource(seed)), left: 40}
		want := m.expr(flat)
		text := strings.ReplaceAll(want.text, "\n", ";")
		l, _ := tokens.Raw(text)
		var b strings.Builder
		end := 0
		for i, k := range l {
			b.WriteString(text[end:k.At])
			end = k.At
			if k.Kind != tokens.Part && (i == 0 || l[i-1].Kind != tokens.Part) {
				b.WriteString(m.pick("", " ", "/* x */", " /*/**/*/\t"))
			}
		}
		b.WriteString(text[end:] + m.pick("", "//", " // x", "\n\n// x\n"))
		if n, f := Expr(b.String()); f.Code != api.OK || !syntax.Equal(n, want.node) {
			t.Fatalf("seed %d: %v\n%s\n%s", seed, f, want.text, b.String())
		}
	}
}

func TestParentheses(t *testing.T) {
	for seed := range int64(seeds) {
		m := &maker{r: rand.New(rand.NewSource(seed)), left: 30}
		e := m.expr(flat)
		p := m.pattern()
		u := m.typ()
		for _, c := range []struct {
			read entry
			d    made
		}{{Expr, e}, {Pattern, p}, {Type, u}} {
			n, f := c.read("(" + c.d.text + ")")
			if f.Code != api.OK || !syntax.Equal(n, c.d.node) {
				t.Fatalf("seed %d: (%s): %v", seed, c.d.text, f)
			}
			n, f = c.read(";((\n" + c.d.text + "));;")
			if f.Code != api.OK || !syntax.Equal(n, c.d.node) {
				t.Fatalf("seed %d: ((%s)): %v", seed, c.d.text, f)
			}
		}
	}
}

// TestIntruder puts a keyword that no rule takes there in front of each token.
func TestIntruder(t *testing.T) {
	for seed := range int64(seeds / 10) {
		text := strings.ReplaceAll(unit(seed, false).text, "\n", ";")
		l, _ := tokens.Raw(text)
		for i, k := range l {
			// These decide what is read in front of them.
			if k.Text == "=>" || k.Text == "<-" || k.Text == "|" || i > 0 && (l[i-1].Text == "(" || l[i-1].Kind == tokens.Part || k.Kind == tokens.Part) {
				continue
			}
			wrong := text[:k.At] + " using " + text[k.At:]
			if _, f := Parse(wrong); f != (api.Fault{At: k.At + 1, Code: api.ErrSyntax}) {
				t.Fatalf("seed %d: %s\n%v, want %d", seed, wrong, f, k.At+1)
			}
		}
	}
}

// TestSoup reads tokens at random.
func TestSoup(t *testing.T) {
	words := strings.Fields(`a B 1 "s" + - * => = <- : <: >: [ ] ( ) { } , . ; @ _ '{ ${ | & :: += s"$x" case class def val type given
		extension enum object trait if then else while do for yield try catch finally match new this super return throw import lazy private with extends using true`)
	r := rand.New(rand.NewSource(1))
	for range 30000 {
		var b strings.Builder
		for range r.Intn(30) {
			b.WriteString(words[r.Intn(len(words))] + []string{" ", " ", " ", "\n", "\n  "}[r.Intn(5)])
		}
		for _, read := range []entry{Parse, Expr, Type, Pattern} {
			n, f := read(b.String())
			if f.Code != api.OK && (n.Kind != 0 || n.Kids != nil) || f.Code == api.OK && (f.At != 0 || syntax.Check(n) != api.Fault{}) {
				t.Fatalf("%q: %v %v", b.String(), f, n)
			}
		}
	}
}

package printer

import (
	"math/rand"

	"newel/api"
	"newel/syntax"
)

// maker makes trees at random for which there are texts.
type maker struct {
	r    *rand.Rand
	left int // how many nodes it may still make, roughly
}

func tree(kind int, text string, num int64, kids ...syntax.Node) syntax.Node {
	return syntax.Node{Kind: kind, Text: text, Num: num, Kids: kids}
}

func leaf(kind int) syntax.Node { return syntax.Node{Kind: kind} }

var none = syntax.Node{}

func (m *maker) one(n int) bool { return m.r.Intn(n) == 0 }

func (m *maker) pick(l ...string) string { return l[m.r.Intn(len(l))] }

// ends reports whether something without parts is made: with d levels only this may be, and otherwise it is, sometimes.
func (m *maker) ends(d int) bool {
	m.left--
	return d <= 1 || m.left < 0 || m.one(8)
}

func (m *maker) name() string {
	return m.pick("a", "b", "x", "A", "B", "_", "_1", "zz", "Z9", "L", "return1", "xtype", "thenx") + m.pick("", "", "s", "_")
}

func (m *maker) word() string {
	for {
		if s := m.name(); s != "_" {
			return s
		}
	}
}

func (m *maker) op() string {
	return m.pick("+", "-", "*", "/", "%", "::", "+:", "-:", ":+", "*:", "<", ">", "<=", ">=", "!=", "==", "=:", "&", "&&", "|", "||", "|:", "^", "~", "?", "?:", "!", "<<", "=>>", "<::", "-->")
}

func (m *maker) assignOp() string { return m.pick("=", "=", "+=", "::=", "-=", "<<=", "!==") }

func (m *maker) id() string {
	if m.one(3) {
		return m.pick(m.op(), "+=", ":=", "===")
	}
	return m.word()
}

func (m *maker) path(most int) string {
	s := m.word()
	for range m.r.Intn(most) {
		s += "." + m.word()
	}
	return s
}

func (m *maker) bytes() string {
	b := make([]byte, m.r.Intn(4))
	for i := range b {
		b[i] = m.pick("a", "1", "_", "$", "{", "}", "\"", "'", "\\", "\n", "\t", " ", "\x00", "\x7f", "\xff", "/", "*")[0]
	}
	return string(b)
}

// many makes nodes.
func (m *maker) many(least, most int, f func() syntax.Node) []syntax.Node {
	var l []syntax.Node
	for range least + m.r.Intn(most-least+1) {
		l = append(l, f())
	}
	return l
}

// maybe makes a node, or nothing.
func (m *maker) maybe(f func(int) syntax.Node, d int) syntax.Node {
	if d < 1 || m.one(2) {
		return none
	}
	return f(d)
}

func with(kind int, text string, num int64, lists ...[]syntax.Node) syntax.Node {
	n := tree(kind, text, num)
	for _, l := range lists {
		n.Kids = append(n.Kids, l...)
	}
	return n
}

func (m *maker) types(least, most, d int) []syntax.Node {
	return m.many(least, most, func() syntax.Node { return m.typ(d) })
}

func (m *maker) exprs(least, most, d int) []syntax.Node {
	return m.many(least, most, func() syntax.Node { return m.expr(d) })
}

func (m *maker) typ(d int) syntax.Node {
	if m.ends(d) {
		return tree(syntax.TName, m.word(), 0)
	}
	d--
	switch m.r.Intn(11) {
	case 0:
		return tree(syntax.TSelect, m.word(), 0, m.pathTree(d))
	case 1:
		return tree(syntax.TSingle, "", 0, m.pathTree(d))
	case 2, 3:
		args := m.many(1, 3, func() syntax.Node {
			if m.one(3) && d > 1 {
				return tree(syntax.TWild, "", 0, m.maybe(m.typ, d-1), m.maybe(m.typ, d-1))
			}
			return m.typ(d)
		})
		return with(syntax.TApply, "", 0, []syntax.Node{m.typ(d)}, args)
	case 4, 5:
		return with(syntax.TFunction, "", 0, m.types(0, 3, d), []syntax.Node{m.typ(d)})
	case 6:
		return tree(syntax.TAnd, "", 0, m.typ(d), m.typ(d))
	case 7:
		return tree(syntax.TOr, "", 0, m.typ(d), m.typ(d))
	case 8:
		if d < 4 {
			break
		}
		return tree(syntax.TLambda, "", 0, m.names(1, d), m.typ(d))
	case 9:
		cases := m.many(1, 3, func() syntax.Node { return tree(syntax.TCase, "", 0, m.typ(d-1), m.typ(d-1)) })
		return with(syntax.TMatch, "", 0, []syntax.Node{m.typ(d)}, cases)
	}
	return tree(syntax.TName, m.word(), 0)
}

// pathTree makes a path in a type.
func (m *maker) pathTree(d int) syntax.Node {
	switch {
	case m.one(3):
		return leaf(syntax.XThis)
	case m.one(2) || m.ends(d):
		return tree(syntax.XName, m.word(), 0)
	}
	return tree(syntax.XSelect, m.word(), 0, m.pathTree(d-1))
}

func (m *maker) literal() syntax.Node {
	switch m.r.Intn(9) {
	case 0:
		return tree(syntax.XInt, "", []int64{0, 1, 2147483647}[m.r.Intn(3)])
	case 1:
		return tree(syntax.XLong, "", []int64{0, 12, 9223372036854775807}[m.r.Intn(3)])
	case 2:
		return tree(syntax.XChar, "", []int64{0, 10, 39, 92, 97, 123, 34, 255}[m.r.Intn(8)])
	case 3:
		return tree(syntax.XString, m.bytes(), 0)
	}
	return leaf([]int{syntax.XTrue, syntax.XFalse, syntax.XNull, syntax.XUnit}[m.r.Intn(4)])
}

func (m *maker) pattern(d int) syntax.Node {
	if d < 2 {
		return leaf(syntax.PWild)
	}
	x := m.word()
	if m.ends(d) {
		return tree(syntax.PBind, x, 0, leaf(syntax.PWild))
	}
	d--
	switch m.r.Intn(9) {
	case 0:
		return tree(syntax.PTyped, m.pick(x, "_"), 0, m.typ(d))
	case 1:
		return tree(syntax.PLiteral, "", 0, m.literal())
	case 2:
		if d < 2 {
			break
		}
		return tree(syntax.PLiteral, "", 0, tree(syntax.XPrefix, "-", 0, tree(m.r.Intn(2)+syntax.XInt, "", 3)))
	case 3:
		return tree(syntax.PStable, m.pick("A", "Z9", "a.b", "A.b.c", "_x.B"), 0)
	case 4:
		return with(syntax.PApply, m.path(3), 0, m.many(0, 3, func() syntax.Node { return m.pattern(d) }))
	case 5:
		return with(syntax.PAlt, "", 0, m.many(2, 3, func() syntax.Node {
			n := m.pattern(d)
			if n.Kind == syntax.PAlt {
				return n.Kids[0]
			}
			return n
		}))
	case 6:
		if n := m.pattern(d); n.Kind != syntax.PBind {
			return tree(syntax.PBind, x, 0, n)
		}
	case 7:
		return leaf(syntax.PWild)
	}
	return tree(syntax.PBind, x, 0, leaf(syntax.PWild))
}

// atom makes an expression without parts.
func (m *maker) atom() syntax.Node {
	switch m.r.Intn(5) {
	case 0:
		return m.literal()
	case 1:
		return leaf([]int{syntax.XThis, syntax.XBlock}[m.r.Intn(2)])
	}
	return tree(syntax.XName, m.word(), 0)
}

func (m *maker) expr(d int) syntax.Node {
	if m.ends(d) {
		return m.atom()
	}
	d--
	switch m.r.Intn(4) {
	case 0:
		return m.control(d)
	case 1:
		return m.enclosed(d)
	}
	return m.operation(d)
}

func (m *maker) operation(d int) syntax.Node {
	switch m.r.Intn(9) {
	case 0:
		return tree(syntax.XInfix, m.op(), 0, m.expr(d), m.expr(d))
	case 1:
		return tree(syntax.XPrefix, m.pick("-", "!", "~", "+"), 0, m.expr(d))
	case 2:
		return tree(syntax.XSelect, m.id(), 0, m.expr(d))
	case 3:
		return tree(syntax.XSelect, m.id(), 0, tree(syntax.XSuper, m.pick("", "A"), 0))
	case 4, 5:
		args := m.exprs(0, 3, d)
		if d > 1 && m.one(3) {
			args = append(args, m.many(1, 2, func() syntax.Node { return tree(syntax.XNamed, m.word(), 0, m.expr(d-1)) })...)
		}
		return with(syntax.XApply, "", int64(m.r.Intn(2)), []syntax.Node{m.expr(d)}, args)
	case 6:
		return with(syntax.XTypes, "", 0, []syntax.Node{m.expr(d)}, m.types(1, 2, d))
	case 7:
		return tree(syntax.XAssign, m.assignOp(), 0, m.expr(d), m.expr(d))
	}
	return tree(syntax.XTyped, "", 0, m.expr(d), m.typ(d))
}

func (m *maker) control(d int) syntax.Node {
	switch m.r.Intn(9) {
	case 0:
		return tree(syntax.XIf, "", 0, m.expr(d), m.expr(d), m.maybe(m.expr, d))
	case 1:
		return tree(syntax.XWhile, "", 0, m.expr(d), m.expr(d))
	case 2:
		return m.comprehension(d)
	case 3:
		if d < 3 {
			break
		}
		return with(syntax.XMatch, "", 0, []syntax.Node{m.expr(d)}, m.many(1, 3, func() syntax.Node { return m.clause(d) }))
	case 4:
		if d < 4 {
			break
		}
		cases := with(syntax.SCases, "", 0, m.many(0, 2, func() syntax.Node { return m.clause(d - 1) }))
		return tree(syntax.XTry, "", 0, m.expr(d), cases, m.maybe(m.expr, d))
	case 5:
		return tree(syntax.XThrow, "", 0, m.expr(d))
	case 6:
		return tree(syntax.XReturn, "", 0, m.maybe(m.expr, d))
	}
	if d < 2 {
		return m.atom()
	}
	params := m.many(0, 2, func() syntax.Node {
		return tree(syntax.SLambdaParam, m.pick("_", m.word()), 0, m.maybe(m.typ, d-1))
	})
	return with(syntax.XLambda, "", 0, params, []syntax.Node{m.expr(d)})
}

func (m *maker) clause(d int) syntax.Node {
	return tree(syntax.SCase, "", 0, m.pattern(d-1), m.maybe(m.expr, d-1), m.expr(d-1))
}

func (m *maker) comprehension(d int) syntax.Node {
	if d < 3 {
		return m.atom()
	}
	kids := []syntax.Node{tree(syntax.SGenerator, "", 0, m.pattern(d-1), m.expr(d-1))}
	for range m.r.Intn(3) {
		switch m.r.Intn(3) {
		case 0:
			kids = append(kids, tree(syntax.SGenerator, "", 0, m.pattern(d-1), m.expr(d-1)))
		case 1:
			kids = append(kids, tree(syntax.SBinding, "", 0, m.pattern(d-1), m.expr(d-1)))
		case 2:
			kids = append(kids, tree(syntax.SGuard, "", 0, m.expr(d-1)))
		}
	}
	return with(syntax.XFor, "", int64(m.r.Intn(2)), kids, []syntax.Node{m.expr(d)})
}

func (m *maker) enclosed(d int) syntax.Node {
	switch m.r.Intn(5) {
	case 0, 1:
		return m.block(d + 1)
	case 2:
		return tree([]int{syntax.XQuote, syntax.XSplice}[m.r.Intn(2)], "", 0, m.block(d))
	case 3:
		part := func() syntax.Node { return tree(syntax.XString, m.bytes(), 0) }
		kids := []syntax.Node{part()}
		for range m.r.Intn(3) {
			kids = append(kids, m.expr(d), part())
		}
		return with(syntax.XInterp, m.word(), 0, kids)
	}
	if d < 3 {
		return m.atom()
	}
	parents := with(syntax.SParents, "", 0, m.many(1, 2, func() syntax.Node { return m.parent(d - 1) }))
	return tree(syntax.XNew, "", 0, parents, m.maybe(m.body, d))
}

func (m *maker) parent(d int) syntax.Node {
	if m.one(2) {
		return tree(syntax.SParent, "", 0, m.typ(d-1))
	}
	return with(syntax.SParent, "", 1, []syntax.Node{m.typ(d - 1)}, m.exprs(0, 2, d-1))
}

func (m *maker) block(d int) syntax.Node {
	if d < 2 {
		return leaf(syntax.XBlock)
	}
	return with(syntax.XBlock, "", 0, m.many(0, 3, func() syntax.Node { return m.statement(d - 1) }))
}

func (m *maker) body(d int) syntax.Node {
	if d < 2 {
		return leaf(syntax.SBody)
	}
	return with(syntax.SBody, "", 0, m.many(0, 3, func() syntax.Node { return m.statement(d - 1) }))
}

func (m *maker) statement(d int) syntax.Node {
	if m.one(2) {
		return m.expr(d)
	}
	return m.definition(d)
}

func (m *maker) mods() syntax.Node {
	n := leaf(syntax.SMods)
	if m.one(3) {
		for _, flag := range []int64{api.Abstract, api.Final, api.Sealed, api.Private, api.Override, api.Volatile, api.Inline} {
			if m.one(3) {
				n.Num |= flag
			}
		}
	}
	return n
}

func (m *maker) names(least, d int) syntax.Node {
	if d < 4 {
		return leaf(syntax.SNames)
	}
	return with(syntax.SNames, "", 0, m.many(least, 2, func() syntax.Node {
		kids := []syntax.Node{m.maybe(m.typ, d-2), m.maybe(m.typ, d-2)}
		for range m.r.Intn(3) {
			kids = append(kids, none)
		}
		return with(syntax.STParam, m.word(), int64(m.r.Intn(3)-1), kids)
	}))
}

func (m *maker) param(d int) syntax.Node {
	return tree(syntax.SParam, m.word(), int64(m.r.Intn(3)+4*m.r.Intn(3)), m.mods(), m.typ(d-1), m.maybe(m.expr, d-1))
}

func (m *maker) lists(d int) syntax.Node {
	if d < 4 {
		return leaf(syntax.SLists)
	}
	return with(syntax.SLists, "", 0, m.many(0, 2, func() syntax.Node {
		return with(syntax.SParams, "", int64(m.r.Intn(2)), m.many(0, 2, func() syntax.Node { return m.param(d - 2) }))
	}))
}

func (m *maker) parents(d int) syntax.Node {
	if d < 3 {
		return leaf(syntax.SParents)
	}
	return with(syntax.SParents, "", 0, m.many(0, 2, func() syntax.Node { return m.parent(d - 1) }))
}

func (m *maker) class(d int) syntax.Node {
	num := int64(m.r.Intn(6))
	names, lists := m.names(0, d), m.lists(d)
	if num == isObject || num == isCaseObject {
		names, lists = leaf(syntax.SNames), leaf(syntax.SLists)
	}
	body := m.maybe(m.body, d)
	if num == isEnum {
		body = leaf(syntax.SBody)
		if d > 2 {
			body.Kids = m.many(0, 3, func() syntax.Node {
				if m.one(2) && d > 2 {
					return tree(syntax.SEnumCase, m.word(), 0, m.names(0, d-2), m.lists(d-2), m.parents(d-2))
				}
				return m.statement(d - 1)
			})
		}
	}
	return tree(syntax.SClass, m.word(), num, m.mods(), names, lists, m.parents(d), body)
}

func (m *maker) definition(d int) syntax.Node {
	m.left--
	if d < 4 {
		return tree(syntax.SImport, m.path(3)+m.pick("", ".*"), 0)
	}
	d--
	switch m.r.Intn(8) {
	case 0, 1:
		return m.class(d)
	case 2, 3:
		return m.def(d)
	case 4:
		return tree(syntax.SVal, m.word(), int64(m.r.Intn(3)), m.mods(), m.maybe(m.typ, d), m.maybe(m.value, d))
	case 5:
		low, high, alias := m.maybe(m.typ, d), m.maybe(m.typ, d), none
		if low.Kind+high.Kind == 0 {
			alias = m.maybe(m.typ, d)
		}
		return tree(syntax.SType, m.word(), 0, m.mods(), m.names(0, d), low, high, alias)
	case 6:
		if m.one(2) {
			return tree(syntax.SGiven, "", 0, m.mods(), leaf(syntax.SNames), leaf(syntax.SLists), m.typ(d), m.value(d))
		}
		return tree(syntax.SGiven, m.word(), 0, m.mods(), m.names(0, d), m.lists(d), m.typ(d), m.value(d))
	}
	defs := m.many(1, 3, func() syntax.Node { return m.def(d - 1) })
	return with(syntax.SExtension, "", 0, []syntax.Node{m.names(0, d), m.param(d)}, defs)
}

// value makes the value of a definition, often a block.
func (m *maker) value(d int) syntax.Node {
	if m.one(2) {
		return m.block(d)
	}
	return m.expr(d)
}

func (m *maker) def(d int) syntax.Node {
	return tree(syntax.SDef, m.id(), 0, m.mods(), m.names(0, d), m.lists(d), m.maybe(m.typ, d), m.maybe(m.value, d))
}

func (m *maker) unit(d int) syntax.Node {
	return with(syntax.SUnit, "", 0, m.many(0, 4, func() syntax.Node { return m.definition(d - 1) }))
}

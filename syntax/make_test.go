package syntax

import (
	"math/rand"
	"strings"
	"testing"

	"newel/api"
)

// short has abbreviations for trees in texts of tests.
var short = strings.NewReplacer(
	"$-", "(SNone)", "$m", "(SMods)", "$n", "(SNames)", "$l", "(SLists)", "$p", "(SParents)", "$b", "(SBody)",
	"$e", `(XName "x")`, "$t", `(TName "T")`, "$w", "(PWild)", "$s", `(XString "s")`,
	"$g", "(SGenerator (PWild) (XUnit))", "$c", "(SCase (PWild) (SNone) (XUnit))", "$a", `(SParam "a" (SMods) (TName "T") (SNone))`,
)

// formOf reads a text form with abbreviations, without Check.
func formOf(t *testing.T, text string) (Node, []int) {
	t.Helper()
	defer func() {
		if f := recover(); f != nil {
			t.Fatalf("%s: %v", text, f)
		}
	}()
	r := &reader{text: short.Replace(text), deep: -1}
	n := r.node(1)
	r.take('\n')
	return n, r.starts
}

// tree returns the tree of a text form with abbreviations, whether it is right or not.
func tree(t *testing.T, text string) Node {
	t.Helper()
	n, _ := formOf(t, text+"\n")
	return n
}

// written returns the text form of a tree that need not be right.
func written(n Node) string {
	w := &writer{}
	w.node(n)
	return w.text.String()
}

// startsOf returns the offsets of the nodes in a text form.
func startsOf(text string) []int {
	var starts []int
	quoted := false
	for i := 0; i < len(text); i++ {
		switch {
		case text[i] == '\\':
			i++
		case text[i] == '"':
			quoted = !quoted
		case text[i] == '(' && !quoted:
			starts = append(starts, i)
		}
	}
	return starts
}

// chain returns a tree of that many nodes, one inside of the other.
func chain(size int) Node {
	n := Node{Kind: XName, Text: "x"}
	for range size - 1 {
		n = Node{Kind: XSplice, Kids: []Node{n}}
	}
	return n
}

// wide returns a right tree of that many nodes, and 3 levels.
func wide(size int) Node {
	n := Node{Kind: XBlock}
	for size--; size > 0; {
		m := Node{Kind: XBlock}
		for size--; size > 0 && len(m.Kids) < maxMany; size-- {
			m.Kids = append(m.Kids, Node{Kind: XName, Text: "x"})
		}
		n.Kids = append(n.Kids, m)
	}
	return n
}

// maker makes right trees at random, the same ones in each run.
type maker struct{ r *rand.Rand }

func (m maker) pick(l ...string) string { return l[m.r.Intn(len(l))] }

func (m maker) letters() string {
	return m.pick("a", "B", "_x", "__", "x1", "val", "T", "y", strings.Repeat("n", api.MaxName))
}

func (m maker) name() string {
	return m.pick(m.letters(), "+", "::", "=", "=>", "<:", strings.Repeat("*", api.MaxName))
}

func (m maker) path() string {
	return strings.Join(strings.Fields(strings.Repeat(m.letters()+" ", 1+m.r.Intn(maxPath))), ".")
}

func (m maker) bytes() string {
	b := make([]byte, m.r.Intn(6))
	for i := range b {
		b[i] = m.pick("a", "\"", "\\", "\n", "\t", "\x00", "\x7f", "\xff", "(", ")", " ", "x")[0]
		if m.r.Intn(3) == 0 {
			b[i] = byte(m.r.Intn(256))
		}
	}
	return string(b)
}

// some returns trees that a function makes, at least that many.
func (m maker) some(least int, f func() Node) []Node {
	var out []Node
	for n := least + m.r.Intn(3); n > 0; n-- {
		out = append(out, f())
	}
	return out
}

// maybe returns a tree that a function makes, or SNone.
func (m maker) maybe(f func() Node) Node {
	if m.r.Intn(2) == 0 {
		return Node{At: m.r.Intn(9)}
	}
	return f()
}

func node(kind int, text string, num int, kids ...Node) Node {
	return Node{Kind: kind, Text: text, Num: int64(num), Kids: kids}
}

// with returns kids and then more of them.
func with(more []Node, kids ...Node) []Node { return append(kids, more...) }

func (m maker) mods() Node {
	flags := []int{0, api.Abstract, api.Final, api.Sealed, api.Private, api.Override, api.Volatile, api.Inline}
	return node(SMods, "", flags[m.r.Intn(8)]|flags[m.r.Intn(8)])
}

func (m maker) names(d int) Node {
	return node(SNames, "", 0, m.some(0, func() Node {
		low, high := m.maybe(func() Node { return m.aType(d - 1) }), m.maybe(func() Node { return m.aType(d - 1) })
		return node(STParam, m.letters(), m.r.Intn(3)-1, with(m.some(0, func() Node { return Node{} }), low, high)...)
	})...)
}

func (m maker) param(d int) Node {
	num := []int{0, 1, 2, 4, 5, 6, 8, 9, 10}[m.r.Intn(9)]
	return node(SParam, m.letters(), num, m.mods(), m.aType(d-1), m.maybe(func() Node { return m.expression(d - 1) }))
}

func (m maker) lists(d int) Node {
	return node(SLists, "", 0, m.some(0, func() Node {
		return node(SParams, "", m.r.Intn(2), m.some(0, func() Node { return m.param(d - 1) })...)
	})...)
}

func (m maker) parents(d, least int) Node {
	return node(SParents, "", 0, m.some(least, func() Node {
		if m.r.Intn(2) == 0 {
			return node(SParent, "", 0, m.aType(d-1))
		}
		return node(SParent, "", 1, with(m.some(0, func() Node { return m.expression(d - 1) }), m.aType(d-1))...)
	})...)
}

func (m maker) body(d int) Node {
	return node(SBody, "", 0, m.some(0, func() Node { return m.statement(d - 1) })...)
}

func (m maker) statement(d int) Node {
	if m.r.Intn(2) == 0 {
		return m.definition(d)
	}
	return m.expression(d)
}

func (m maker) def(d, num int) Node {
	return node(SDef, m.name(), num, m.mods(), m.names(d), m.lists(d), m.maybe(func() Node { return m.aType(d - 1) }), m.maybe(func() Node { return m.expression(d - 1) }))
}

func (m maker) definition(d int) Node {
	if d <= 0 {
		return node(SImport, m.path(), 0)
	}
	aType, expression := func() Node { return m.aType(d - 1) }, func() Node { return m.expression(d - 1) }
	switch m.r.Intn(9) {
	case 0:
		return node(SImport, m.pick("a.*", "*", m.path()), 0)
	case 1:
		return node(SClass, m.name(), m.r.Intn(6), m.mods(), m.names(d), m.lists(d), m.parents(d, 0), m.maybe(func() Node { return m.body(d) }))
	case 2:
		return m.def(d, m.r.Intn(2))
	case 3:
		return node(SVal, m.letters(), m.r.Intn(3), m.mods(), m.maybe(aType), m.maybe(expression))
	case 4:
		return node(SType, m.letters(), 0, m.mods(), m.names(d), m.maybe(aType), m.maybe(aType), Node{})
	case 5:
		return node(SType, m.letters(), 0, m.mods(), m.names(d), Node{}, Node{}, aType())
	case 6:
		return node(SGiven, m.pick("", m.letters()), 0, m.mods(), m.names(d), m.lists(d), aType(), expression())
	case 7:
		return node(SExtension, "", 0, with(m.some(1, func() Node { return m.def(d, 0) }), m.names(d), m.param(d))...)
	}
	return node(SEnumCase, m.letters(), 0, m.names(d), m.lists(d), m.parents(d, 0))
}

func (m maker) pathTree(d int) Node {
	if d > 0 && m.r.Intn(2) == 0 {
		return node(XSelect, m.letters(), 0, m.pathTree(d-1))
	}
	return []Node{node(XName, m.letters(), 0), node(XThis, "", 0)}[m.r.Intn(2)]
}

func (m maker) aType(d int) Node {
	if d <= 0 {
		return node(TName, m.letters(), 0)
	}
	aType := func() Node { return m.aType(d - 1) }
	switch m.r.Intn(9) {
	case 0:
		return node(TSelect, m.letters(), 0, m.pathTree(d-1))
	case 1:
		return node(TApply, "", 0, m.some(2, aType)...)
	case 2:
		return node(TFunction, "", 0, m.some(1, aType)...)
	case 3:
		return node([]int{TAnd, TOr}[m.r.Intn(2)], "", 0, aType(), aType())
	case 4:
		return node(TSingle, "", 0, m.pathTree(d-1))
	case 5:
		return node(TWild, "", 0, m.maybe(aType), m.maybe(aType))
	case 6:
		return node(TLambda, "", 0, m.names(d), aType())
	case 7:
		return node(TMatch, "", 0, with(m.some(1, func() Node { return node(TCase, "", 0, aType(), aType()) }), aType())...)
	}
	return node(TName, m.letters(), 0)
}

func (m maker) literal() Node {
	switch m.r.Intn(5) {
	case 0:
		return node([]int{XTrue, XFalse, XNull, XUnit}[m.r.Intn(4)], "", 0)
	case 1:
		return node(XInt, "", []int{0, 1, 42, 1<<31 - 1}[m.r.Intn(4)])
	case 2:
		return node(XLong, "", []int{0, 7, 1<<63 - 1}[m.r.Intn(3)])
	case 3:
		return node(XChar, "", m.r.Intn(256))
	}
	return node(XString, m.bytes(), 0)
}

func (m maker) pattern(d int) Node {
	if d <= 0 {
		return node(PWild, "", 0)
	}
	pattern := func() Node { return m.pattern(d - 1) }
	switch m.r.Intn(7) {
	case 0:
		if p := pattern(); p.Kind != PBind {
			return node(PBind, m.letters(), 0, p)
		}
	case 1:
		return node(PTyped, m.pick("_", m.letters()), 0, m.aType(d-1))
	case 2:
		if l := m.literal(); d > 1 && (l.Kind == XInt || l.Kind == XLong) {
			return node(PLiteral, "", 0, node(XPrefix, "-", 0, l))
		} else {
			return node(PLiteral, "", 0, l)
		}
	case 3:
		return node(PStable, m.path(), 0)
	case 4:
		return node(PApply, m.path(), 0, m.some(0, pattern)...)
	case 5:
		if l := m.some(2, pattern); Count(node(SNone, "", 0, l...), PAlt) == 0 {
			return node(PAlt, "", 0, l...)
		}
	}
	return node(PWild, "", 0)
}

func (m maker) aCase(d int) Node {
	return node(SCase, "", 0, m.pattern(d-1), m.maybe(func() Node { return m.expression(d - 1) }), m.expression(d-1))
}

func (m maker) expression(d int) Node {
	if d <= 0 || m.r.Intn(4) == 0 {
		return m.leaf()
	}
	if m.r.Intn(2) == 0 {
		return m.control(d)
	}
	e := func() Node { return m.expression(d - 1) }
	switch m.r.Intn(10) {
	case 0:
		return node(XSelect, m.name(), 0, e())
	case 1:
		named := m.some(0, func() Node { return node(XNamed, m.letters(), 0, e()) })
		return node(XApply, "", m.r.Intn(2), append(m.some(1, e), named...)...)
	case 2:
		return node(XTypes, "", 0, with(m.some(1, func() Node { return m.aType(d - 1) }), e())...)
	case 3:
		return node(XInfix, m.name(), 0, e(), e())
	case 4:
		return node(XPrefix, m.pick("-", "!", "~", "+"), 0, e())
	case 5:
		return node(XAssign, m.pick("=", "+=", "::=", "<<="), 0, e(), e())
	case 6:
		kids := []Node{node(XString, m.bytes(), 0)}
		for range m.r.Intn(3) {
			kids = append(kids, e(), node(XString, m.bytes(), 0))
		}
		return node(XInterp, m.letters(), 0, kids...)
	case 7:
		return node(XTyped, "", 0, e(), m.aType(d-1))
	case 8:
		return node(XNew, "", 0, m.parents(d, 1), m.maybe(func() Node { return m.body(d) }))
	}
	return node([]int{XQuote, XSplice, XThrow}[m.r.Intn(3)], "", 0, e())
}

func (m maker) leaf() Node {
	switch m.r.Intn(4) {
	case 0:
		return node(XThis, "", 0)
	case 1:
		return node(XSuper, m.pick("", m.letters()), 0)
	case 2:
		return node(XName, m.name(), 0)
	}
	return m.literal()
}

func (m maker) control(d int) Node {
	e, p := func() Node { return m.expression(d - 1) }, func() Node { return m.pattern(d - 1) }
	switch m.r.Intn(8) {
	case 0:
		return node(XIf, "", 0, e(), e(), m.maybe(e))
	case 1:
		return node(XWhile, "", 0, e(), e())
	case 2:
		kids := with(m.some(0, func() Node {
			return []Node{node(SGenerator, "", 0, p(), e()), node(SBinding, "", 0, p(), e()), node(SGuard, "", 0, e())}[m.r.Intn(3)]
		}), node(SGenerator, "", 0, p(), e()))
		return node(XFor, "", m.r.Intn(2), append(kids, e())...)
	case 3:
		return node(XMatch, "", 0, with(m.some(1, func() Node { return m.aCase(d) }), e())...)
	case 4:
		return node(XTry, "", 0, e(), node(SCases, "", 0, m.some(0, func() Node { return m.aCase(d) })...), m.maybe(e))
	case 5:
		return node(XReturn, "", 0, m.maybe(e))
	case 6:
		params := m.some(0, func() Node {
			return node(SLambdaParam, m.pick("_", m.letters()), 0, m.maybe(func() Node { return m.aType(d - 1) }))
		})
		return node(XLambda, "", 0, append(params, e())...)
	}
	return node(XBlock, "", 0, m.some(0, func() Node { return m.statement(d - 1) })...)
}

// right returns a right tree.
func (m maker) right(d int) Node {
	switch m.r.Intn(5) {
	case 0:
		return m.aType(d)
	case 1:
		return m.pattern(d)
	case 2:
		return m.definition(d)
	case 3:
		return node(SUnit, "", 0, m.some(0, func() Node { return m.definition(d - 1) })...)
	}
	return m.expression(d)
}

// changed returns a tree that is changed in one place at random: it need not be right.
func (m maker) changed(n Node) Node {
	kids := append([]Node{}, n.Kids...)
	if len(kids) > 0 && m.r.Intn(3) > 0 {
		i := m.r.Intn(len(kids))
		kids[i] = m.changed(kids[i])
		n.Kids = kids
		return n
	}
	switch m.r.Intn(6) {
	case 0:
		n.Kind = m.r.Intn(Kinds)
	case 1:
		n.Text = m.pick("", "_", "*", "a.b", "a.*", "+", "x", "\n", "1a", "-=", "a.b.c.d.e.f.g.h.i", strings.Repeat("m", api.MaxName+1))
	case 2:
		n.Num = []int64{-1, 0, 1, 2, 3, 5, 6, 11, 12, 256, api.Case, 1 << 31, -1 << 63}[m.r.Intn(13)]
	case 3:
		n.Kids = append(kids, m.right(1))
	case 4:
		n.Kids = append([]Node{{}}, kids...)
	case 5:
		if len(kids) > 0 {
			n.Kids = kids[1:]
		}
	}
	return n
}

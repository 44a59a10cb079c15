package desugar

import (
	"fmt"
	"math/rand"
	"reflect"
	"slices"
	"strings"
	"testing"

	"newel/api"
	"newel/syntax"
)

// An interpreter of small expressions, which knows the abbreviations by themselves: the core tree of an expression does what the expression does.

// A value is an int, a bool, a string, nil (of Unit), a []value, a *cells or a function.
type value = any

type function = func(args []value) value

// cells is what `f(i) = e` changes.
type cells struct{ list []value }

// scope has the names of values, the innermost one first.
type scope struct {
	up   *scope
	name string
	cell *value
}

func (s *scope) with(name string, v value) *scope { return &scope{s, name, &v} }

func (s *scope) find(name string) *value {
	for s.name != name {
		s = s.up
	}
	return s.cell
}

// machine runs expressions, and notes what they log.
type machine struct{ log []value }

func (m *machine) all(l []syntax.Node, s *scope) []value {
	var out []value
	for _, n := range l {
		out = append(out, m.run(n, s))
	}
	return out
}

func (m *machine) run(n syntax.Node, s *scope) value {
	switch n.Kind {
	case syntax.XInt:
		return int(n.Num)
	case syntax.XString:
		return n.Text
	case syntax.XTrue, syntax.XFalse:
		return n.Kind == syntax.XTrue
	case syntax.XUnit:
		return nil
	case syntax.XName:
		return *s.find(n.Text)
	case syntax.XSelect:
		return m.member(m.run(n.Kids[0], s), n.Text, nil)
	case syntax.XApply:
		if f := n.Kids[0]; f.Kind == syntax.XSelect {
			receiver := m.run(f.Kids[0], s)
			return m.member(receiver, f.Text, m.all(n.Kids[1:], s))
		}
		f := m.run(n.Kids[0], s)
		return m.member(f, "apply", m.all(n.Kids[1:], s))
	case syntax.XLambda:
		last := len(n.Kids) - 1
		return function(func(args []value) value {
			inner := s
			for i, v := range args {
				inner = inner.with(n.Kids[i].Text, v)
			}
			return m.run(n.Kids[last], inner)
		})
	case syntax.XMatch:
		return m.run(n.Kids[1].Kids[2], bind(n.Kids[1].Kids[0], m.run(n.Kids[0], s), s))
	case syntax.XBlock:
		var last value
		for _, k := range n.Kids {
			last = nil
			if k.Kind == syntax.SVal {
				s = s.with(k.Text, m.run(k.Kids[2], s))
			} else {
				last = m.run(k, s)
			}
		}
		return last
	case syntax.XAssign:
		return m.assign(n, s)
	case syntax.XIf:
		if m.run(n.Kids[0], s).(bool) {
			return m.run(n.Kids[1], s)
		} else if n.Kids[2].Kind == syntax.SNone {
			return nil
		}
		return m.run(n.Kids[2], s)
	}
	return m.abbreviation(n, s)
}

// abbreviation runs what does not occur in core trees.
func (m *machine) abbreviation(n syntax.Node, s *scope) value {
	switch n.Kind {
	case syntax.XInfix:
		return m.infix(n, s)
	case syntax.XPrefix:
		return m.member(m.run(n.Kids[0], s), n.Text, nil)
	case syntax.XInterp:
		text := ""
		for _, k := range n.Kids {
			text += fmt.Sprint(m.run(k, s))
		}
		return text
	case syntax.XFor:
		var out []value
		last := len(n.Kids) - 1
		m.loop(n.Kids[:last], s, func(inner *scope) { out = append(out, m.run(n.Kids[last], inner)) })
		if n.Num == 0 {
			return nil
		}
		return out
	}
	panic("no meaning: " + syntax.Name(n.Kind))
}

// loop goes on with each scope that the enumerators make, in order.
func (m *machine) loop(enumerators []syntax.Node, s *scope, goOn func(*scope)) {
	if len(enumerators) == 0 {
		goOn(s)
		return
	}
	e, rest := enumerators[0], enumerators[1:]
	switch e.Kind {
	case syntax.SGuard:
		if m.run(e.Kids[0], s).(bool) {
			m.loop(rest, s, goOn)
		}
	case syntax.SBinding:
		m.loop(rest, bind(e.Kids[0], m.run(e.Kids[1], s), s), goOn)
	default:
		for _, v := range m.run(e.Kids[1], s).([]value) {
			m.loop(rest, bind(e.Kids[0], v, s), goOn)
		}
	}
}

// bind returns the scope behind a pattern, which always matches.
func bind(p syntax.Node, v value, s *scope) *scope {
	switch p.Kind {
	case syntax.PBind:
		return bind(p.Kids[0], v, s.with(p.Text, v))
	case syntax.PTyped:
		if p.Text != "_" {
			return s.with(p.Text, v)
		}
	}
	return s
}

func (m *machine) infix(n syntax.Node, s *scope) value {
	a := m.run(n.Kids[0], s)
	if n.Text == "&&" && a == false || n.Text == "||" && a == true {
		return a
	}
	b := m.run(n.Kids[1], s)
	switch {
	case n.Text == "&&" || n.Text == "||":
		return b
	case n.Text == "!=":
		return !reflect.DeepEqual(a, b)
	case strings.HasSuffix(n.Text, ":"):
		return m.member(b, n.Text, []value{a})
	}
	return m.member(a, n.Text, []value{b})
}

func (m *machine) assign(n syntax.Node, s *scope) value {
	left, right := n.Kids[0], n.Kids[1]
	run := func() value { return m.run(right, s) }
	if op := strings.TrimSuffix(n.Text, "="); op != "" {
		run = func() value { return m.infix(node(syntax.XInfix, op, left, right), s) }
	}
	if left.Kind == syntax.XName {
		*s.find(left.Text) = run()
		return nil
	}
	f := m.run(left.Kids[0], s)
	args := m.all(left.Kids[1:], s)
	return m.member(f, "update", append(args, run()))
}

// member calls a method.
func (m *machine) member(receiver value, name string, args []value) value {
	if name == "==" {
		return reflect.DeepEqual(receiver, args[0])
	}
	switch v := receiver.(type) {
	case int:
		return number(v, name, args)
	case bool:
		return !v
	case string:
		return v + fmt.Sprint(args[0])
	case []value:
		return m.list(v, name, args)
	case *cells:
		i := (args[0].(int)%len(v.list) + len(v.list)) % len(v.list)
		if name == "update" {
			v.list[i] = args[1]
			return nil
		}
		return v.list[i]
	case function:
		return v(args)
	}
	panic("no member " + name)
}

func number(v int, name string, args []value) value {
	switch {
	case len(args) == 0 && name == "-":
		return -v
	case name == "+":
		return v + args[0].(int)
	case name == "-":
		return v - args[0].(int)
	}
	return v > args[0].(int)
}

func (m *machine) list(l []value, name string, args []value) value {
	if name == "::" {
		return append([]value{args[0]}, l...)
	}
	var out []value
	for _, v := range l {
		w := args[0].(function)([]value{v})
		switch name {
		case "map":
			out = append(out, w)
		case "flatMap":
			out = append(out, w.([]value)...)
		case "withFilter":
			if w.(bool) {
				out = append(out, v)
			}
		}
	}
	if name == "foreach" {
		return nil
	}
	return out
}

// writer makes expressions at random that have a meaning.
type writer struct {
	r    *rand.Rand
	pure bool // nothing is logged or assigned, as the order of filters is not that of loops
}

func (w *writer) pick(l ...string) string { return l[w.r.Intn(len(l))] }

// variable returns the name of an int.
func (w *writer) variable() string { return w.pick("x", "y", "_1", "_2", "z") }

func call(f syntax.Node, args ...syntax.Node) syntax.Node {
	return node(syntax.XApply, "", append([]syntax.Node{f}, args...)...)
}

func named(name string) syntax.Node { return node(syntax.XName, name) }

func (w *writer) int(d int) syntax.Node {
	if d <= 0 {
		return []syntax.Node{{Kind: syntax.XInt, Num: int64(w.r.Intn(5))}, named(w.variable())}[w.r.Intn(2)]
	}
	d--
	switch w.r.Intn(8) {
	case 0:
		return node(syntax.XPrefix, "-", w.int(d))
	case 1:
		return node(syntax.XIf, "", w.bool(d), w.int(d), w.int(d))
	case 2:
		value := node(syntax.SVal, w.variable(), node(syntax.SMods, ""), node(syntax.SNone, ""), w.int(d))
		return node(syntax.XBlock, "", value, w.unit(d), w.int(d))
	case 3:
		return node(syntax.XMatch, "", w.int(d), node(syntax.SCase, "", w.pattern(), node(syntax.SNone, ""), w.int(d)))
	case 4:
		return call(named("cells"), w.int(d))
	case 5:
		if !w.pure {
			return call(named("log"), w.int(d))
		}
	case 6:
		params := []syntax.Node{node(syntax.SLambdaParam, w.pick("_", "x", "y"), node(syntax.SNone, ""))}
		return call(node(syntax.XLambda, "", append(params, w.int(d))...), w.int(d))
	}
	return node(syntax.XInfix, w.pick("+", "-"), w.int(d), w.int(d))
}

func (w *writer) bool(d int) syntax.Node {
	if d <= 0 {
		return node(syntax.XInfix, ">", w.int(0), w.int(0))
	}
	d--
	switch w.r.Intn(4) {
	case 0:
		return node(syntax.XPrefix, "!", w.bool(d))
	case 1:
		return node(syntax.XInfix, w.pick("&&", "||", "==", "!="), w.bool(d), w.bool(d))
	case 2:
		return node(syntax.XInfix, w.pick("==", "!="), w.list(d), w.list(d))
	}
	return node(syntax.XInfix, w.pick("==", "!=", ">"), w.int(d), w.int(d))
}

func (w *writer) list(d int) syntax.Node {
	if d <= 0 {
		return named(w.pick("none", "one", "two"))
	}
	if w.r.Intn(3) == 0 {
		return node(syntax.XInfix, "::", w.int(d-1), w.list(d-1))
	}
	return w.loop(d, 1, w.int(d-1))
}

func (w *writer) unit(d int) syntax.Node {
	if d <= 0 || w.pure {
		return node(syntax.XBlock, "")
	}
	d--
	switch w.r.Intn(5) {
	case 0:
		return node(syntax.XIf, "", w.bool(d), w.unit(d), node(syntax.SNone, ""))
	case 1:
		return node(syntax.XAssign, w.pick("=", "+=", "-="), named(w.variable()), w.int(d))
	case 2:
		return node(syntax.XAssign, w.pick("=", "+=", "-="), call(named("cells"), w.int(d)), w.int(d))
	case 3:
		text := node(syntax.XInterp, "s", node(syntax.XString, w.pick("", "a")), w.int(d), node(syntax.XString, w.pick("", "b")), w.list(d), node(syntax.XString, ""))
		return call(named("log"), text)
	}
	return w.loop(d, 0, w.unit(d))
}

// loop makes a for expression. What it does in its head has no effects.
func (w *writer) loop(d, yields int, body syntax.Node) syntax.Node {
	defer func(pure bool) { w.pure = pure }(w.pure)
	w.pure = true
	generator := func() syntax.Node { return node(syntax.SGenerator, "", w.pattern(), w.list(d-1)) }
	n := node(syntax.XFor, "", generator())
	n.Num = int64(yields)
	for range w.r.Intn(5) {
		n.Kids = append(n.Kids, []syntax.Node{
			generator(), node(syntax.SGuard, "", w.bool(d-1)), node(syntax.SBinding, "", w.pattern(), w.int(d-1)),
		}[w.r.Intn(3)])
	}
	n.Kids = append(n.Kids, body)
	return n
}

func (w *writer) pattern() syntax.Node {
	wild, typed := node(syntax.PWild, ""), func(name string) syntax.Node {
		return node(syntax.PTyped, name, node(syntax.TName, "Int"))
	}
	switch w.r.Intn(6) {
	case 0:
		return wild
	case 1:
		return typed("_")
	case 2:
		return typed(w.variable())
	case 3:
		return node(syntax.PBind, w.variable(), typed(w.pick("_", "x", "y")))
	}
	return node(syntax.PBind, w.variable(), wild)
}

// outcome runs an expression, and returns all that can be seen of it.
func outcome(n syntax.Node) string {
	m := &machine{}
	var s *scope
	memory := &cells{[]value{5, 6, 7}}
	for i, name := range []string{"x", "y", "z", "_1", "_2"} {
		s = s.with(name, i)
	}
	s = s.with("cells", memory).with("none", []value(nil)).with("one", []value{3}).with("two", []value{4, 1})
	s = s.with("log", function(func(args []value) value {
		m.log = append(m.log, args[0])
		return args[0]
	}))
	result := m.run(n, s)
	var variables []value
	for _, name := range []string{"x", "y", "z", "_1", "_2"} {
		variables = append(variables, *s.find(name))
	}
	return fmt.Sprint(result, " ", m.log, " ", memory.list, " ", variables)
}

func TestMeaning(t *testing.T) {
	w := &writer{r: rand.New(rand.NewSource(8))}
	seen := map[string]bool{}
	compared := 0
	for i := range 20000 {
		w.pure = false
		d := 1 + i%4
		n := []func(int) syntax.Node{w.int, w.bool, w.list, w.unit}[w.r.Intn(4)](d)
		core, f := Expr(n)
		if f.Code == api.ErrDepth || f.Code == api.ErrLimit {
			continue
		}
		if f.Code != api.OK {
			t.Fatalf("Expr(%s): %v", written(n), f)
		}
		want, got := outcome(n), outcome(core)
		if got != want {
			t.Fatalf("%s\ndoes %s, but\n%s\ndoes %s", written(n), want, written(core), got)
		}
		compared++
		for m := range nodes(n) {
			seen[syntax.Name(m.Kind)+" "+m.Text] = true
		}
	}
	for _, what := range []string{"XInfix &&", "XInfix ||", "XInfix !=", "XInfix ::", "XPrefix !", "XPrefix -", "XFor ", "SGuard ", "SBinding ", "XAssign +=", "XInterp s", "SLambdaParam _"} {
		if !seen[what] {
			t.Errorf("no expression has %s", what)
		}
	}
	if compared < 15000 {
		t.Errorf("only %d expressions are compared", compared)
	}
}

// The interpreter itself tells loops that differ.
func TestMeaningOfLoops(t *testing.T) {
	for _, c := range []struct{ text, want string }{
		{"for { x <- two; y <- two; if x != y; z = x - y } yield z", "[3 -3]"},
		{"for { x <- two; y = x + 1; if y > 2; x <- y :: one } yield x + y", "[10 8]"},
		{"for { x <- two; x = x + 1; x = x + x; if x > 4 } yield x", "[10]"},
		{"for { _ <- two; _1 <- 9 :: one; if _1 > 3 } yield _1", "[9 9]"},
	} {
		n := exprOf(t, c.text)
		core, _ := Expr(n)
		for _, n := range []syntax.Node{n, core} {
			if got := outcome(n); !strings.HasPrefix(got, c.want+" ") {
				t.Errorf("%s is %s", written(n), got)
			}
		}
	}
	if slices.Contains([]string{outcome(exprOf(t, "log(1) :: log(2) :: none")), ""}, outcome(exprOf(t, "log(2) :: log(1) :: none"))) {
		t.Error("the order of operands is not seen")
	}
}

package desugar

import (
	"strings"
	"testing"

	"newel/api"
	"newel/syntax"
)

// P5.1, P5.2: faults, their places and their order, and limits.

// mark stands in texts of tests in front of the place of the fault.
const mark = "§"

// unitFaults has texts of units with the place of the first fault.
var unitFaults = []struct {
	text string
	code api.Errno
}{
	// Interpolators.
	{`val x = §raw"a"`, api.ErrName},
	{`val x = §S"a$b"`, api.ErrName},
	{`val x = s"a${§f"b"}"`, api.ErrName},
	{`val x = §f"a${g"b"}"`, api.ErrName},
	// Definitions in blocks.
	{"def f = { §def g = 1; g }", api.ErrForm},
	{"def f = { a; §class A; b }", api.ErrForm},
	{"def f = { §object A; b }", api.ErrForm},
	{"def f = { §type T = Int; b }", api.ErrForm},
	{"def f = { §given A = b; b }", api.ErrForm},
	{"def f = { §extension (x: A) def g = 1; b }", api.ErrForm},
	{"def f = { §enum E { case A }; b }", api.ErrForm},
	{"def f = { §enum E { }; b }", api.ErrForm},
	{"def f = { val x = 1; §val y: Int; x }", api.ErrForm},
	{"def f = { §var y: Int }", api.ErrForm},
	{"def f = { §lazy val y: Int; x }", api.ErrForm},
	{"def f = '{ §def g = 1 }", api.ErrForm},
	{"def f = x match { case a => §def g = 1; g }", api.ErrForm},
	{"def f = { import a.b; val x = 1; §def g = 1 }", api.ErrForm},
	// What is assigned to.
	{"def f = §1 = 2", api.ErrForm},
	{"def f = §x + y = 2", api.ErrForm},
	{"def f = §x + y += 2", api.ErrForm},
	{"def f = §f[Int] = 2", api.ErrForm},
	{"def f = §(x = 1) = 2", api.ErrForm},
	{"def f = §this = 2", api.ErrForm},
	{"def f = §{ x } = 2", api.ErrForm},
	{`def f = §raw"" = raw""`, api.ErrForm},
	// Enums.
	{"§final enum E { case A }", api.ErrFinal},
	{"§final enum E { }", api.ErrFinal},
	{"§final enum E[T] { case A }", api.ErrFinal},
	{"§private final enum E { case A }", api.ErrFinal},
	{"§enum E { }", api.ErrEmpty},
	{"§enum E { def f = 1 }", api.ErrEmpty},
	{"class A { §enum E { enum F { case B } } }", api.ErrEmpty},
	{"enum E[T] { §case A }", api.ErrVariance},
	{"enum E[T] { case §A, B }", api.ErrVariance},
	{"enum E[+T, U] { case A(x: T); case B extends E[T, U]; §case C }", api.ErrVariance},
	{"enum E[+T[_], U[_]] { §case C }", api.ErrVariance},
	{"enum E[T] { §case A[U] }", api.ErrVariance},
	{"object O { enum E[T] { case A(x: T); §case B } }", api.ErrVariance},
	// Lists of parameters.
	{"def f(using a: A)§(b: B) = 1", api.ErrOrder},
	{"def f(using a: A)§() = 1", api.ErrOrder},
	{"def f(a: A)(using b: B)(using c: C)§(d: D) = 1", api.ErrOrder},
	{"def f(using a: A)§(b: B)(using c: C)(d: D) = 1", api.ErrOrder},
	{"class A(using a: A)§(b: B)", api.ErrOrder},
	{"given f(using a: A)§(b: B): C = d", api.ErrOrder},
	{"enum E { case A(using a: A)§(b: B) }", api.ErrOrder},
	{"enum E(using a: A)§(b: B) { case A }", api.ErrOrder},
	{"extension (x: X) def f(using a: A)§(b: B) = 1", api.ErrOrder},
	{"trait T(using a: A)§(b: B)", api.ErrOrder},
}

func TestUnitFaults(t *testing.T) {
	for _, c := range unitFaults {
		want := api.Fault{At: strings.Index(c.text, mark), Code: c.code}
		n, f := Unit(unitOf(t, strings.Replace(c.text, mark, "", 1)))
		if f != want || written(n) != "(SNone)" {
			t.Errorf("Unit(%q) = %s, %v; want %v", c.text, written(n), f, want)
		}
	}
}

// Faults in the order in which nodes are replaced: from the outside to the inside, and from the left to the right.
func TestOrderOfFaults(t *testing.T) {
	for _, c := range []struct {
		text string
		code api.Errno
	}{
		{`val x = §r"a"; val y = f"b"`, api.ErrName},
		{`val x = §r"a"; enum E { }`, api.ErrName},
		{`§enum E { }; val x = r"a"`, api.ErrEmpty},
		{`def f(x: A = §r"a") = { def g = 1 }`, api.ErrName},
		{`def f(using x: A = r"a")§(y: B) = { def g = 1 }`, api.ErrOrder},
		{`def f(x: A = §r"a") = 1; def g(using a: A)(b: B) = 1`, api.ErrName},
		{`def f = §1 = r"a"`, api.ErrForm},
		{`def f = { r"a"; §def g = 1 }`, api.ErrForm},
		{`def f = { { §def g = 1 }; h }`, api.ErrForm},
		{`def f = §r"a" + { def g = 1 }`, api.ErrName},
		{`def f = { §def g = 1 } + r"a"`, api.ErrForm},
		{`def f = b :: §r"a"`, api.ErrName},
		{`def f = §r"a" :: g"b"`, api.ErrName},
		{`def f = if (§r"a") g"b"`, api.ErrName},
		{`def f = for { x <- §r"a"; if g"b" } yield h"c"`, api.ErrName},
		// The guard stands in front of what is bound behind it once more.
		{`def f = for { x <- xs; y = a; if §g"b" } yield h"c"`, api.ErrName},
		{`def f(x: T) = §g"b"; final enum E { case A }`, api.ErrName},
		// The class of an enum is made first, with the parents of all cases, and then what stands in it.
		{`enum E[T](x: T = r"a") { §case A }`, api.ErrVariance},
		{`enum E { case A(x: T = r"a"); def f = §g"b" }`, api.ErrName},
		{`enum E { case A(x: T = §r"a"); case B(x: T = g"b") }`, api.ErrName},
	} {
		want := api.Fault{At: strings.Index(c.text, mark), Code: c.code}
		if _, f := Unit(unitOf(t, strings.Replace(c.text, mark, "", 1))); f != want {
			t.Errorf("Unit(%q) = %v; want %v", c.text, f, want)
		}
	}
}

// Cases of enums stand in enums alone: no text has them elsewhere.
func TestStrayCases(t *testing.T) {
	const c = `(SEnumCase "C" $n $l $p)`
	for _, text := range []string{
		`(SUnit ` + c + `)`,
		`(SUnit (SClass "A" $m $n $l $p (SBody $e ` + c + `)))`,
		`(SUnit (SClass "A" 1 $m $n $l $p (SBody ` + c + `)))`,
		`(SUnit (SDef "f" $m $n $l $- (XNew (SParents (SParent $t)) (SBody ` + c + `))))`,
		`(SUnit (SDef "f" $m $n $l $- (XBlock $e ` + c + ` $e)))`,
		`(SUnit (SClass "E" 5 $m $n $l $p (SBody (SClass "A" $m $n $l $p (SBody ` + c + `)) (SEnumCase "D" $n $l $p))))`,
	} {
		n := counted(form(t, text))
		want := api.Fault{Code: api.ErrForm}
		for m := range nodes(n) {
			if m.Kind == syntax.SEnumCase && m.Text == "C" {
				want.At = m.At
			}
		}
		if core, f := Unit(n); f != want || written(core) != "(SNone)" {
			t.Errorf("Unit(%s) = %v; want %v", text, f, want)
		}
		if Core(n) {
			t.Errorf("Core(%s)", text)
		}
	}
}

// A tree that is not right has the fault of syntax.Check, at the At of the node.
func TestWrongTrees(t *testing.T) {
	wrong := node(syntax.XName, "1")
	wrong.At = 77
	value := node(syntax.SVal, "x", node(syntax.SMods, ""), node(syntax.SNone, ""), node(syntax.XInfix, "+", node(syntax.XInt, ""), wrong))
	for _, c := range []struct {
		n    syntax.Node
		want api.Fault
	}{
		{node(syntax.SUnit, "", value), api.Fault{At: 77, Code: api.ErrName}},
		{node(syntax.XThrow, "", wrong), api.Fault{At: 77, Code: api.ErrName}},
		{wrong, api.Fault{At: 77, Code: api.ErrName}},
		{syntax.Node{Kind: -1, At: 5}, api.Fault{At: 5, Code: api.ErrKind}},
		{syntax.Node{Kind: syntax.Kinds, At: 6}, api.Fault{At: 6, Code: api.ErrKind}},
		{node(syntax.SUnit, "x"), api.Fault{Code: api.ErrInvalid}},
		{syntax.Node{Kind: syntax.SUnit, Num: 1, At: 3}, api.Fault{At: 3, Code: api.ErrInvalid}},
		{node(syntax.XIf, ""), api.Fault{Code: api.ErrForm}},
		{node(syntax.XInfix, "+", node(syntax.XInt, "")), api.Fault{Code: api.ErrForm}},
		{node(syntax.SUnit, "", node(syntax.XInt, "")), api.Fault{Code: api.ErrForm}},
		{chain(api.MaxNest + 1), api.Fault{Code: api.ErrDepth}},
		{endless(), api.Fault{Code: api.ErrDepth}},
		{doubled(api.MaxNest - 1), api.Fault{Code: api.ErrLimit}},
		{wide(api.MaxNodes + 1), api.Fault{Code: api.ErrLimit}},
	} {
		for name, f := range map[string]func(syntax.Node) (syntax.Node, api.Fault){"Unit": Unit, "Expr": Expr} {
			if core, got := f(c.n); got != c.want || written(core) != "(SNone)" {
				t.Errorf("%s of a wrong tree of the kind %s = %v; want %v", name, syntax.Name(c.n.Kind), got, c.want)
			}
		}
		if Core(c.n) {
			t.Errorf("Core of a wrong tree of the kind %s", syntax.Name(c.n.Kind))
		}
	}
}

// Units are SUnits, expressions those of the table: anything else is ErrKind, whatever else is wrong with it.
func TestRoots(t *testing.T) {
	p := newPool(t, 1)
	for kind, l := range p.parts {
		for _, n := range l {
			n = counted(n)
			n.At = 9
			want := api.Fault{Code: api.ErrKind}
			if _, f := Unit(n); (f == want) != (n.Kind != syntax.SUnit) {
				t.Errorf("Unit of a root %s = %v", syntax.Name(n.Kind), f)
			}
			if _, f := Expr(n); (f == want) != (kind != "X") {
				t.Errorf("Expr of a root %s = %v", syntax.Name(n.Kind), f)
			}
		}
	}
	for _, text := range []string{`(SClass "E" 5 (SMods 2) $n $l $p $-)`, "$-", `(SEnumCase "A" $n $l $p)`, "(SGuard (XBlock (SVal \"a\" $m $- $-)))", `(XNamed "a" (XInterp "r" (XString)))`} {
		for name, f := range map[string]func(syntax.Node) (syntax.Node, api.Fault){"Unit": Unit, "Expr": Expr} {
			if n, got := f(counted(form(t, text))); got != (api.Fault{Code: api.ErrKind}) || written(n) != "(SNone)" {
				t.Errorf("%s(%s) = %v", name, text, got)
			}
		}
	}
}

// checkMade checks whether what a function that replaces makes of a tree is right.
func checkMade(t *testing.T, name string, replace func(syntax.Node) (syntax.Node, api.Fault), n syntax.Node, want api.Errno) {
	t.Helper()
	core, f := replace(numbered(n, func() int { return 8 }))
	if f != (api.Fault{Code: want}) || (want != api.OK) != (written(core) == "(SNone)") {
		t.Errorf("%s: %v", name, f)
	}
}

// What was made must be right, too: {0, Code} otherwise.
func TestMadeTreesAreRight(t *testing.T) {
	x := node(syntax.XName, "x")
	interp := func(count int) syntax.Node {
		n := node(syntax.XInterp, "s", node(syntax.XString, ""))
		for range count {
			n.Kids = append(n.Kids, x, node(syntax.XString, ""))
		}
		return n
	}
	vals := func(count int) syntax.Node {
		return node(syntax.XBlock, "", repeat(form(t, `(SVal "a" $m $- $e)`), count)...)
	}
	update := func(count int) syntax.Node {
		return node(syntax.XAssign, "=", node(syntax.XApply, "", repeat(x, count+1)...), x)
	}
	for _, c := range []struct {
		name string
		n    syntax.Node
		code api.Errno
	}{
		{"31 parts", interp(31), api.OK},
		{"32 parts", interp(32), api.ErrDepth},
		{"200 parts", interp(200), api.ErrDepth},
		{"200 statements and ()", vals(200), api.ErrForm},
		{"199 statements and ()", vals(199), api.OK},
		{"199 arguments of update", update(198), api.OK},
		{"200 arguments of update", update(199), api.OK},
		{"201 arguments of update", update(200), api.ErrForm},
		{"an argument behind one with a name", form(t, `(XAssign "=" (XApply $e (XNamed "n" $e)) $e)`), api.ErrForm},
		{"62 prefixes, one into the other", prefixes(62, interp(0)), api.OK},
		{"62 prefixes and a string", prefixes(62, interp(1)), api.ErrDepth},
	} {
		checkMade(t, c.name, Expr, c.n, c.code)
	}
}

func prefixes(count int, n syntax.Node) syntax.Node {
	for range count {
		n = node(syntax.XPrefix, "-", n)
	}
	return n
}

func TestMadeUnitsAreRight(t *testing.T) {
	enums := func(count int) syntax.Node {
		return node(syntax.SUnit, "", repeat(form(t, `(SClass "E" 5 $m $n $l $p (SBody (SEnumCase "A" $n $l $p)))`), count)...)
	}
	extension := func(lists, tparams, own, defs int) syntax.Node {
		names := node(syntax.SNames, "", repeat(form(t, `(STParam "T" $- $-)`), tparams)...)
		ownNames := node(syntax.SNames, "", repeat(form(t, `(STParam "U" $- $-)`), own)...)
		def := form(t, `(SDef "f" $m $n $l $- $-)`)
		def.Kids[1], def.Kids[2].Kids = ownNames, repeat(node(syntax.SParams, ""), lists)
		return node(syntax.SUnit, "", node(syntax.SExtension, "", append([]syntax.Node{names, form(t, "$a")}, repeat(def, defs)...)...))
	}
	for _, c := range []struct {
		name string
		n    syntax.Node
		code api.Errno
	}{
		{"100 enums of a case", enums(100), api.OK},
		{"101 enums of a case", enums(101), api.ErrForm},
		{"3 lists and that of an extension", extension(3, 0, 0, 1), api.OK},
		{"4 lists and that of an extension", extension(4, 0, 0, 1), api.ErrForm},
		{"200 type parameters of an extension and a method", extension(0, 150, 50, 1), api.OK},
		{"201 type parameters of an extension and a method", extension(0, 150, 51, 1), api.ErrForm},
		{"200 methods of an extension", extension(0, 0, 0, 200), api.OK},
		{"200 methods and too many nodes", extension(0, 40, 0, 200), api.ErrLimit},
		{"the name of an enum, as a type", form(t, `(SUnit (SClass "::" 5 $m $n $l $p (SBody (SEnumCase "A" $n $l $p))))`), api.ErrName},
		{"the name of an enum alone", form(t, `(SUnit (SClass "::" 5 $m $n $l $p (SBody (SEnumCase "A" $n $l (SParents (SParent $t))))))`), api.OK},
	} {
		checkMade(t, c.name, Unit, c.n, c.code)
	}
}

// What is made has api.MaxNodes nodes at most.
func TestMostNodes(t *testing.T) {
	for _, c := range []struct {
		add  int // to the greatest number of nodes
		code api.Errno
	}{{-1, api.OK}, {0, api.OK}, {1, api.ErrLimit}} {
		// An XInfix of 3 nodes is an XApply of 4 nodes.
		n := wide(api.MaxNodes - 4 + c.add)
		n.Kids = append(n.Kids, node(syntax.XInfix, "+", node(syntax.XThis, ""), node(syntax.XThis, "")))
		core, f := Expr(n)
		if f != (api.Fault{Code: c.code}) || c.code == api.OK && size(core) != api.MaxNodes+c.add {
			t.Errorf("%d nodes more than the greatest number: %v, %d", c.add, f, size(core))
		}
	}
}

// Few nodes may stand for very many: that is found out before these are made, and counts more than what comes behind them.
func TestTooManyNodes(t *testing.T) {
	const levels = 25
	assign, loop := node(syntax.XName, "x"), node(syntax.XName, "x")
	w := node(syntax.PWild, "")
	for range levels {
		assign = node(syntax.XAssign, "+=", node(syntax.XApply, "", node(syntax.XName, "f"), assign), node(syntax.XInt, ""))
		loop = node(syntax.XFor, "", node(syntax.SGenerator, "", w, node(syntax.XThis, "")), node(syntax.SBinding, "", w, loop), node(syntax.SGuard, "", node(syntax.XThis, "")), node(syntax.XUnit, ""))
	}
	bad := node(syntax.XInterp, "r", node(syntax.XString, ""))
	bad.At = 5
	for name, n := range map[string]syntax.Node{"assignments": assign, "loops": loop} {
		if core, f := Expr(n); f != (api.Fault{Code: api.ErrLimit}) || written(core) != "(SNone)" {
			t.Errorf("%s in one another: %v", name, f)
		}
		if _, f := Expr(node(syntax.XBlock, "", n, bad)); f != (api.Fault{Code: api.ErrLimit}) {
			t.Errorf("%s in one another, in front of a fault: %v", name, f)
		}
		if _, f := Expr(node(syntax.XBlock, "", bad, n)); f != (api.Fault{At: 5, Code: api.ErrName}) {
			t.Errorf("%s in one another, behind a fault: %v", name, f)
		}
	}
}

// Nodes inside of PLiterals are not counted, but for what is made in the end.
func TestLiteralsAreNotCounted(t *testing.T) {
	const cases = 199
	literal := form(t, `(SCase (PLiteral (XPrefix "-" (XInt))) $- $u)`) // 6 nodes, 4 of which are counted
	binding := form(t, `(SCase (PBind "a" (PTyped "b" $t)) $- $u)`)     // 6 nodes
	last := node(syntax.XInterp, "r", node(syntax.XString, ""))
	last.At = 5
	// The 12 matches, of about 14300 nodes, are made twice: 28700 nodes, 19100 of which are counted.
	for _, c := range []struct {
		name string
		of   syntax.Node
		last syntax.Node
		want api.Fault
	}{
		{"literals", literal, last, api.Fault{At: 5, Code: api.ErrName}},
		{"bindings", binding, last, api.Fault{Code: api.ErrLimit}},
		{"literals without another fault", literal, node(syntax.XUnit, ""), api.Fault{Code: api.ErrLimit}},
	} {
		match := node(syntax.XMatch, "", append([]syntax.Node{node(syntax.XThis, "")}, repeat(c.of, cases)...)...)
		left := node(syntax.XApply, "", append([]syntax.Node{node(syntax.XName, "f")}, repeat(match, 12)...)...)
		if _, f := Expr(node(syntax.XAssign, "+=", left, c.last)); f != c.want {
			t.Errorf("matches of %s: %v; want %v", c.name, f, c.want)
		}
	}
}

// chain returns a tree of that many nodes, one inside of the other.
func chain(size int) syntax.Node { return nested(size-1, node(syntax.XThis, "")) }

func nested(count int, n syntax.Node) syntax.Node {
	for range count {
		n = node(syntax.XThrow, "", n)
	}
	return n
}

// wide returns a core tree of that many nodes, and 3 levels, whose last statement is an expression.
func wide(size int) syntax.Node {
	n := node(syntax.XBlock, "")
	for size--; size > 1; {
		m := node(syntax.XBlock, "")
		for size--; size > 0 && len(m.Kids) < 150; size-- {
			m.Kids = append(m.Kids, node(syntax.XThis, ""))
		}
		n.Kids = append(n.Kids, m)
	}
	if size == 1 {
		n.Kids = append(n.Kids, node(syntax.XThis, ""))
	}
	return n
}

// endless returns a node that is nested in itself.
func endless() syntax.Node {
	kids := []syntax.Node{node(syntax.XName, "_1"), node(syntax.XBlock, "")}
	kids[1].Kids = kids
	return kids[1]
}

// doubled returns a tree with that many levels of nodes that have the same kids twice, and a leaf.
func doubled(levels int) syntax.Node {
	n := node(syntax.XName, "_1")
	for range levels {
		n = node(syntax.XBlock, "", n, n)
	}
	return n
}

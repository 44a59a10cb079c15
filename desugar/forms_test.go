package desugar

import (
	"testing"

	"newel/api"
	"newel/syntax"
)

// P5.1, P5.2: what stands for each abbreviation. Both sides are texts, as core trees have texts, too.

// exprForms has expressions, and what they are replaced by.
var exprForms = []struct{ text, want string }{
	// 1. Operators.
	{"a && b", "if (a) b else false"},
	{"a || b", "if (a) true else b"},
	{"a != b", "a.==(b).!"},
	{"a == b", "a.==(b)"},
	{"a + b * c", "a.+(b.*(c))"},
	{"a - b - c", "a.-(b).-(c)"},
	{"a && b || !c", "if (if (a) b else false) true else c.!"},
	{"a != b != c", "a.==(b).!.==(c).!"},
	{"a &&& b", "a.&&&(b)"},
	{"a <= b", "a.<=(b)"},
	{"1 :: l", "{ val _1 = 1; l.::(_1) }"},
	{"a :: b :: l", "{ val _1 = a; { val _2 = b; l.::(_2) }.::(_1) }"},
	{"(a :: b) :: l", "{ val _1 = { val _2 = a; b.::(_2) }; l.::(_1) }"},
	{"a +: b", "{ val _1 = a; b.+:(_1) }"},
	{"_1 :: _3 :: _2 :: l", "{ val _4 = _1; { val _5 = _3; { val _6 = _2; l.::(_6) }.::(_5) }.::(_4) }"},
	{"-x", "x.-"}, {"!x", "x.!"}, {"~x", "x.~"}, {"+x", "x.+"},
	{"-1", "1.-"}, {"-2L", "2L.-"}, {"- - 1", "1.-.-"}, {"-a.b", "a.b.-"}, {"!(a && b)", "(if (a) b else false).!"},
	// 2. Assignments.
	{"x = 1", "x = 1"},
	{"x += 1", "x = x.+(1)"},
	{"x.y = a + b", "x.y = a.+(b)"},
	{"x.y -= 1", "x.y = x.y.-(1)"},
	{"super.x = 1", "super.x = 1"},
	{"x <<= 1", "x = x.<<(1)"},
	{"x ||= y", "x = if (x) true else y"},
	{"x !== y", "x = x.==(y).!"},
	{"x ::= y", "x = { val _1 = x; y.::(_1) }"},
	{"(a :: b).c += 1", "{ val _1 = a; b.::(_1) }.c = { val _2 = a; b.::(_2) }.c.+(1)"},
	{"f(x) = e", "f.update(x, e)"},
	{"f() = e", "f.update(e)"},
	{"f(x, y) = e", "f.update(x, y, e)"},
	{"f(x)(y) = e", "f(x).update(y, e)"},
	{"a.f(x + y) = -e", "a.f.update(x.+(y), e.-)"},
	{"f[T](x) = e", "f[T].update(x, e)"},
	{"f(x) += e", "f.update(x, f(x).+(e))"},
	{"f(_ => x) += e", "f.update(_1 => x, f(_2 => x).+(e))"},
	{"f(using x) = e", "f.update(x, e)"},
	{"f(x) = g(y) = z", "f.update(x, g.update(y, z))"},
	// 3. Interpolated strings.
	{`s"a$b"`, `"a".+(b)`},
	{`s"a${b}c"`, `"a".+(b).+("c")`},
	{`s"$b"`, `"".+(b)`},
	{`s"$a$b"`, `"".+(a).+(b)`},
	{`s"$a-$b"`, `"".+(a).+("-").+(b)`},
	{`s""`, `""`},
	{`s"a"`, `"a"`},
	{`s"a${""}b${"c"}"`, `"a".+("b").+("c")`},
	{`s"a${x + 1}${s"b$c"}"`, `"a".+(x.+(1)).+("b".+(c))`},
	// 5. What is left out.
	{"if (a) b", "if (a) b else ()"},
	{"if (a) b else c", "if (a) b else c"},
	{"if (a) if (b) c else d", "if (a) if (b) c else d else ()"},
	{"() => return", "() => return ()"},
	{"() => return -1", "() => return 1.-"},
	{"{ }", "{ () }"},
	{"{ a }", "{ a }"},
	{"{ val x = 1 }", "{ val x = 1; () }"},
	{"{ a; import b.c }", "{ a; import b.c; () }"},
	{"{ a; var x: Int = 1; lazy val y = 2; x }", "{ a; var x: Int = 1; lazy val y = 2; x }"},
	{"{ { }; { a; { } } }", "{ { () }; { a; { () } } }"},
	// 6. Parameters without names, and what stays.
	{"_ => 1", "_1 => 1"},
	{"(_, x, _) => x", "(_1, x, _2) => x"},
	{"(_: Int) => _ => _1", "(_2: Int) => _3 => _1"},
	{"x => x", "x => x"},
	{"try a + b catch { case -1 => c; case x if !x => d } finally { }", "try a.+(b) catch { case -1 => c; case x if x.! => d } finally { () }"},
	{"x match { case -1 | -2L => -1 }", "x match { case -1 | -2L => 1.- }"},
	{"while (a != b) { }", "while (a.==(b).!) { () }"},
	{"new A(a + b) { val x = -1; _ => 2 }", "new A(a.+(b)) { val x = 1.-; _1 => 2 }"},
	{"'{ a + ${ b - c } }", "'{ a.+(${ b.-(c) }) }"},
	{"f[T](-x, n = !y)(using -z)", "f[T](x.-, n = y.!)(using z.-)"},
	{"(-x: Int)", "(x.- : Int)"},
	{"throw -x", "throw x.-"},
}

// loopForms are those of for expressions (4).
var loopForms = []struct{ text, want string }{
	{"for { x <- xs } yield x", "xs.map(x => x)"},
	{"for { x <- xs } do x", "xs.foreach(x => x)"},
	{"for { x: Int <- xs } yield x", "xs.map((x: Int) => x)"},
	{"for { x @ _ <- xs } yield x", "xs.map(x => x)"},
	{"for { _ <- xs } yield 1", "xs.map(_1 => _1 match { case _ => 1 })"},
	{"for { _: Int <- xs } yield 1", "xs.map(_1 => _1 match { case _: Int => 1 })"},
	{"for { P(x) <- xs } yield x", "xs.map(_1 => _1 match { case P(x) => x })"},
	{"for { x @ P(y) <- xs } yield y", "xs.map(_1 => _1 match { case x @ P(y) => y })"},
	{"for { x @ (y: Int) <- xs } yield y", "xs.map(_1 => _1 match { case x @ (y: Int) => y })"},
	{"for { 1 <- xs } do a", "xs.foreach(_1 => _1 match { case 1 => a })"},
	{"for { x <- xs; y <- ys } yield x", "xs.flatMap(x => ys.map(y => x))"},
	{"for { x <- xs; y <- ys } do x", "xs.foreach(x => ys.foreach(y => x))"},
	{"for { x <- xs; y <- f(x); z <- y } yield z", "xs.flatMap(x => f(x).flatMap(y => y.map(z => z)))"},
	{"for { x <- xs; if x > 1 } yield x", "xs.withFilter(x => x.>(1)).map(x => x)"},
	{"for { x <- xs; if a; if b } yield x", "xs.withFilter(x => a).withFilter(x => b).map(x => x)"},
	{"for { x: Int <- xs; if a } do x", "xs.withFilter((x: Int) => a).foreach((x: Int) => x)"},
	{"for { P(x) <- xs; if x; if y } yield x", "xs.withFilter(_1 => _1 match { case P(x) => x }).withFilter(_2 => _2 match { case P(x) => y }).map(_3 => _3 match { case P(x) => x })"},
	{"for { x <- xs; if a; y <- ys; if b } yield y", "xs.withFilter(x => a).flatMap(x => ys.withFilter(y => b).map(y => y))"},
	{"for { x <- xs; y = f(x) } yield y", "xs.map(x => f(x) match { case y => y })"},
	{"for { x <- xs; y = f(x); P(z) = y } do z", "xs.foreach(x => f(x) match { case y => y match { case P(z) => z } })"},
	{"for { x <- xs; y = a; z <- y } yield z", "xs.flatMap(x => a match { case y => y.map(z => z) })"},
	{"for { x <- xs; y = a; z <- y } do z", "xs.foreach(x => a match { case y => y.foreach(z => z) })"},
	{"for { x <- xs; y = a; if c } yield y", "xs.withFilter(x => a match { case y => c }).map(x => a match { case y => y })"},
	{"for { x <- xs; y = a; if c; z = b; if d; w = e } yield w",
		"xs.withFilter(x => a match { case y => c }).withFilter(x => a match { case y => b match { case z => d } }).map(x => a match { case y => b match { case z => e match { case w => w } } })"},
	{"for { x <- xs; if c; y = a; z = b; if d; w <- z; if y } yield w",
		"xs.withFilter(x => c).withFilter(x => a match { case y => b match { case z => d } }).flatMap(x => a match { case y => b match { case z => z.withFilter(w => y).map(w => w) } })"},
	{"for { P(x) <- xs; Q(y) = x; if y; _ <- y } yield y",
		"xs.withFilter(_1 => _1 match { case P(x) => x match { case Q(y) => y } }).flatMap(_2 => _2 match { case P(x) => x match { case Q(y) => y.map(_3 => _3 match { case _ => y }) } })"},
	// Names are taken by the for expression first, and then by what stands in it.
	{"for { _ <- 1 :: l; P(x) <- x } yield _ => 2", "{ val _3 = 1; l.::(_3) }.flatMap(_1 => _1 match { case _ => x.map(_2 => _2 match { case P(x) => _4 => 2 }) })"},
	{"for { _ <- for { _ <- a } yield 1 } do for { _ <- b } do 2", "a.map(_2 => _2 match { case _ => 1 }).foreach(_1 => _1 match { case _ => b.foreach(_3 => _3 match { case _ => 2 }) })"},
	{"for { x <- xs; y = 1 :: x; if y } yield -y", "xs.withFilter(x => { val _1 = 1; x.::(_1) } match { case y => y }).map(x => { val _2 = 1; x.::(_2) } match { case y => y.- })"},
	{"for { -1 <- xs; -2 = x; if c } yield x", "xs.withFilter(_1 => _1 match { case -1 => x match { case -2 => c } }).map(_2 => _2 match { case -1 => x match { case -2 => x } })"},
	{"for { x <- xs } yield { }", "xs.map(x => { () })"},
}

// unitForms has units, and what they are replaced by.
var unitForms = []struct{ text, want string }{
	{"", ""},
	{"val x = a + b; type T = A | B; import a.b", "val x = a.+(b); type T = A | B; import a.b"},
	{"def f(x: Int = -1): Int = { }", "def f(x: Int = 1.-): Int = { () }"},
	{"given o(using x: A): B = -x", "given o(using x: A): B = x.-"},
	{"class A(x: Int = -1) extends B(-2) { -x; def f = { }; class C { !y } }", "class A(x: Int = 1.-) extends B(2.-) { x.-; def f = { () }; class C { y.! } }"},
	{"class A { }; trait B; object C { }; case class D(); case object E", "class A { }; trait B; object C { }; case class D(); case object E"},
	{"object O { val x: Int; val y = 1 }", "object O { val x: Int; val y = 1 }"},
	{"def f(a: A)(b: B)(using c: C)(using d: D) = a", "def f(a: A)(b: B)(using c: C)(using d: D) = a"},
	// 8. Enums.
	{"enum Color { case Red, Green }", "sealed abstract class Color; case object Red extends Color; case object Green extends Color"},
	{"enum E { case A }; val x = 1; enum F { case B }", "sealed abstract class E; case object A extends E; val x = 1; sealed abstract class F; case object B extends F"},
	{"private enum E(x: Int) extends P(1) with Q { -x; case A extends E(-1); def f = 1; case B extends E(2) with R }",
		"sealed abstract private class E(x: Int) extends P(1) with Q { x.-; def f = 1 }; case object A extends E(1.-); case object B extends E(2) with R"},
	{"sealed abstract enum E { case A }", "sealed abstract class E; case object A extends E"},
	{"enum E { case A(x: Int, y: Int = -1); case B(); case C(x: Int)(using y: D) }",
		"sealed abstract class E; case class A(x: Int, y: Int = 1.-) extends E; case class B() extends E; case class C(x: Int)(using y: D) extends E"},
	{"enum E[+A, -B] { case X; case Y(a: A); case Z[T](t: T); case W() extends E[Int, Int]; case V extends E[Int, Int]; case U[T](t: T) extends E[T, T] }",
		"sealed abstract class E[+A, -B]; case object X extends E[Nothing, Any]; case class Y[+A, -B](a: A) extends E[A, B]; case class Z[T](t: T) extends E[A, B]; case class W() extends E[Int, Int]; case object V extends E[Int, Int]; case class U[T](t: T) extends E[T, T]"},
	{"enum E[A <: B, F[_]] { case X(a: F[A]); case Y extends E[B, List] }", "sealed abstract class E[A <: B, F[_]]; case class X[A <: B, F[_]](a: F[A]) extends E[A, F]; case object Y extends E[B, List]"},
	{"enum E[-F[_]] { case X }", "sealed abstract class E[-F[_]]; case object X extends E[Any]"},
	{"object O { enum E { case A; enum F { case B; 1 :: l } } }", "object O { sealed abstract class E { sealed abstract class F { { val _1 = 1; l.::(_1) } }; case object B extends F }; case object A extends E }"},
	{"def f = new A { enum E { case B } }", "def f = new A { sealed abstract class E; case object B extends E }"},
}

func TestExprForms(t *testing.T) {
	for _, c := range append(exprForms, loopForms...) {
		want := exprOf(t, c.want)
		n, f := Expr(exprOf(t, c.text))
		if f != (api.Fault{}) || !syntax.Equal(n, want) {
			t.Errorf("Expr(%q) = %v, %s\nwant %s", c.text, f, written(n), written(want))
		}
		// A unit does the same with the expressions in it.
		unit, f := Unit(unitOf(t, "class A { val y = ("+c.text+") }"))
		if wantUnit := unitOf(t, "class A { val y = ("+c.want+") }"); f != (api.Fault{}) || !syntax.Equal(unit, wantUnit) {
			t.Errorf("Unit with %q = %v, %s\nwant %s", c.text, f, written(unit), written(wantUnit))
		}
	}
}

func TestUnitForms(t *testing.T) {
	for _, c := range unitForms {
		want := unitOf(t, c.want)
		n, f := Unit(unitOf(t, c.text))
		if f != (api.Fault{}) || !syntax.Equal(n, want) {
			t.Errorf("Unit(%q) = %v, %s\nwant %s", c.text, f, written(n), written(want))
		}
	}
}

// treeForms has trees for which there are no texts, or whose Nums a text does not show.
var treeForms = []struct{ tree, want string }{
	{`(XInfix "max" $e $u)`, `(XApply (XSelect "max" $e) $u)`},
	{`(XInfix ":" (XInt 1) $e)`, `(XBlock (SVal "_1" $m $- (XInt 1)) (XApply (XSelect ":" $e) (XName "_1")))`},
	{`(XInfix "&&:" (XInt 1) $e)`, `(XBlock (SVal "_1" $m $- (XInt 1)) (XApply (XSelect "&&:" $e) (XName "_1")))`},
	{`(XAssign ":=" $e $u)`, `(XAssign "=" $e (XBlock (SVal "_1" $m $- $e) (XApply (XSelect ":" $u) (XName "_1"))))`},
	{`(XAssign "!==" $e $u)`, `(XAssign "=" $e (XSelect "!" (XApply (XSelect "==" $e) $u)))`},
	{`(XAssign "=" (XApply 1 $e (XInt 1)) $u)`, `(XApply (XSelect "update" $e) (XInt 1) $u)`},
	{`(XInterp "s" (XString) (XString) (XString "a"))`, `(XApply (XSelect "+" (XString)) (XString "a"))`},
	{`(XInterp "s" (XString) (XInt 1) (XString))`, `(XApply (XSelect "+" (XString)) (XInt 1))`},
	{`(XReturn $-)`, `(XReturn $u)`},
	{`(XQuote (XInfix "+" $e $e))`, `(XQuote (XApply (XSelect "+" $e) $e))`},
	{`(XSplice (XIf $e $e $-))`, `(XSplice (XIf $e $e $u))`},
	{`(XSuper "A")`, `(XSuper "A")`},
	{`(XBlock (SImport "*"))`, `(XBlock (SImport "*") $u)`},
	{`(XLambda (SLambdaParam "_" $t) (XString "_1"))`, `(XLambda (SLambdaParam "_2" $t) (XString "_1"))`},
	{`(XMatch $e (SCase (PLiteral (XPrefix "-" (XInt 1))) (XPrefix "-" (XInt 1)) (XPrefix "-" (XLong 1))))`, `(XMatch $e (SCase (PLiteral (XPrefix "-" (XInt 1))) (XSelect "-" (XInt 1)) (XSelect "-" (XLong 1))))`},
	{`(XMatch $e (SCase (PApply "P" (PAlt (PLiteral (XPrefix "-" (XLong))) $w)) $- $u))`, `(XMatch $e (SCase (PApply "P" (PAlt (PLiteral (XPrefix "-" (XLong))) $w)) $- $u))`},
}

func TestTreeForms(t *testing.T) {
	for _, c := range treeForms {
		want := form(t, c.want)
		if n, f := Expr(form(t, c.tree)); f != (api.Fault{}) || !syntax.Equal(n, want) {
			t.Errorf("Expr(%s) = %v, %s\nwant %s", c.tree, f, written(n), written(want))
		}
	}
}

// 7. Extensions: their methods have Num 1, and stand where the extension stood.
func TestExtensions(t *testing.T) {
	const a, b = `(SParams (SParam "a" (SMods) (TName "A") (SNone)))`, `(SParams 1 (SParam "b" (SMods) (TName "B") (SNone)))`
	const x, y = `(STParam "X" (SNone) (SNone))`, `(STParam "Y" 1 (SNone) (TName "X"))`
	for _, c := range []struct{ tree, want string }{
		{`(SUnit (SExtension $n $a (SDef "f" $m $n $l $- $e)))`, `(SUnit (SDef "f" 1 $m $n (SLists (SParams $a)) $- $e))`},
		{`(SUnit (SExtension (SNames ` + x + `) $a (SDef "f" (SMods 8) (SNames ` + y + `) (SLists ` + a + b + `) $t (XPrefix "-" $e)) (SDef "g" $m $n $l $- $-)))`,
			`(SUnit (SDef "f" 1 (SMods 8) (SNames ` + x + y + `) (SLists (SParams $a) ` + a + b + `) $t (XSelect "-" $e)) (SDef "g" 1 $m (SNames ` + x + `) (SLists (SParams $a)) $- $-))`},
		{`(SUnit (SImport "a") (SExtension $n (SParam "p" 9 (SMods 4) $t (XPrefix "!" $e)) (SDef "f" $m $n (SLists ` + b + `) $- $-)) (SImport "b"))`,
			`(SUnit (SImport "a") (SDef "f" 1 $m $n (SLists (SParams (SParam "p" 9 (SMods 4) $t (XSelect "!" $e))) ` + b + `) $- $-) (SImport "b"))`},
		{`(SUnit (SClass "A" $m $n $l $p (SBody $e (SExtension $n $a (SDef "f" $m $n $l $- $-)) $u)))`, `(SUnit (SClass "A" $m $n $l $p (SBody $e (SDef "f" 1 $m $n (SLists (SParams $a)) $- $-) $u)))`},
		{`(SUnit (SClass "E" 5 $m $n $l $p (SBody (SExtension $n $a (SDef "f" $m $n $l $- $-)) (SEnumCase "A" $n $l $p))))`,
			`(SUnit (SClass "E" (SMods 5) $n $l $p (SBody (SDef "f" 1 $m $n (SLists (SParams $a)) $- $-))) (SClass "A" 4 $m $n $l (SParents (SParent (TName "E"))) $-))`},
		// A method that is one of an extension already stays.
		{`(SUnit (SDef "f" 1 $m $n (SLists (SParams $a)) $- $-))`, `(SUnit (SDef "f" 1 $m $n (SLists (SParams $a)) $- $-))`},
	} {
		tree, want := spaced(c.tree), spaced(c.want)
		n, f := Unit(form(t, tree))
		if f != (api.Fault{}) || !syntax.Equal(n, form(t, want)) {
			t.Errorf("Unit(%s) = %v, %s\nwant %s", tree, f, written(n), short.Replace(want))
		}
	}
}

// 8. Enums in all their details.
func TestEnumTrees(t *testing.T) {
	const plus, minus, none = `(STParam "P" 1 (SNone) (SNone))`, `(STParam "M" -1 (SNone) (SNone))`, `(STParam "N" (SNone) (SNone))`
	const e = `(SParents (SParent (TName "E")))`
	for _, c := range []struct{ tree, want string }{
		{`(SClass "E" 5 (SMods 4616) $n $l $p (SBody (SEnumCase "A" $n $l $p)))`, `(SClass "E" (SMods 4621) $n $l $p $-) (SClass "A" 4 $m $n $l ` + e + ` $-)`},
		{`(SClass "E" 5 (SMods 5) $n $l $p (SBody (SEnumCase "A" $n (SLists (SParams)) $p)))`, `(SClass "E" (SMods 5) $n $l $p $-) (SClass "A" 3 $m $n (SLists (SParams)) ` + e + ` $-)`},
		{`(SClass "E" 5 $m (SNames ` + plus + minus + `) $l $p (SBody (SEnumCase "A" $n $l $p) (SEnumCase "B" $n (SLists (SParams)) $p)))`,
			`(SClass "E" (SMods 5) (SNames ` + plus + minus + `) $l $p $-) (SClass "A" 4 $m $n $l (SParents (SParent (TApply (TName "E") (TName "Nothing") (TName "Any")))) $-)` +
				`(SClass "B" 3 $m (SNames ` + plus + minus + `) (SLists (SParams)) (SParents (SParent (TApply (TName "E") (TName "P") (TName "M")))) $-)`},
		// A case object has no type parameters, whatever its case has.
		{`(SClass "E" 5 $m (SNames ` + plus + `) $l $p (SBody (SEnumCase "A" (SNames ` + none + `) $l $p)))`,
			`(SClass "E" (SMods 5) (SNames ` + plus + `) $l $p $-) (SClass "A" 4 $m $n $l (SParents (SParent (TApply (TName "E") (TName "Nothing")))) $-)`},
		// Parents of its own: as they are, even where the type parameters are invariant; nor are these taken from the enum.
		{`(SClass "E" 5 $m (SNames ` + none + `) $l $p (SBody (SEnumCase "A" $n $l (SParents (SParent $t))) (SEnumCase "B" $n (SLists (SParams)) (SParents (SParent 1 $t $e)))))`,
			`(SClass "E" (SMods 5) (SNames ` + none + `) $l $p $-) (SClass "A" 4 $m $n $l (SParents (SParent $t)) $-) (SClass "B" 3 $m $n (SLists (SParams)) (SParents (SParent 1 $t $e)) $-)`},
		// Type parameters of its own, without parents.
		{`(SClass "E" 5 $m (SNames ` + none + `) $l $p (SBody (SEnumCase "A" (SNames ` + plus + `) (SLists (SParams)) $p)))`,
			`(SClass "E" (SMods 5) (SNames ` + none + `) $l $p $-) (SClass "A" 3 $m (SNames ` + plus + `) (SLists (SParams)) (SParents (SParent (TApply (TName "E") (TName "N")))) $-)`},
	} {
		tree, want := spaced("(SUnit "+c.tree+")"), spaced("(SUnit "+c.want+")")
		n, f := Unit(form(t, tree))
		if f != (api.Fault{}) || !syntax.Equal(n, form(t, want)) {
			t.Errorf("Unit(%s) = %v, %s\nwant %s", tree, f, written(n), short.Replace(want))
		}
	}
}

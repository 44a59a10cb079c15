package parser

import (
	"regexp"
	"strings"
	"testing"

	"newel/api"
	"newel/syntax"
)

// short has abbreviations for trees in texts of tests.
var short = strings.NewReplacer(
	"$-", "(SNone)", "$w", "(PWild)", "$m", "(SMods)", "$n", "(SNames)", "$l", "(SLists)", "$p", "(SParents)",
	"$c[", "(SEnumCase ", "]c", " (SNames) (SLists) (SParents))",
)

// entry is one of the exported functions that read a text.
type entry func(string) (syntax.Node, api.Fault)

// entryOf returns the function that makes trees of a form, by the first letter of the kind of its root.
func entryOf(form string) entry {
	switch {
	case strings.HasPrefix(form, "(S"):
		return Parse
	case strings.HasPrefix(form, "(T"):
		return Type
	case strings.HasPrefix(form, "(P"):
		return Pattern
	}
	return Expr
}

// letter matches a kid that is written as a single letter.
var letter = regexp.MustCompile(` ([a-zA-Z])\b`)

// expand returns the text form of an abbreviation, in which a kid `x` stands for (XName "x") and a kid `A` for (TName "A").
func expand(form string) string {
	form = letter.ReplaceAllStringFunc(form, func(s string) string {
		if s[1] < 'a' {
			return ` (TName "` + s[1:] + `")`
		}
		return ` (XName "` + s[1:] + `")`
	})
	return short.Replace(form)
}

// expectForms checks the trees of texts; form and text alternate.
func expectForms(t *testing.T, pairs ...string) {
	t.Helper()
	for i := 0; i < len(pairs); i += 2 {
		want, text := expand(pairs[i]), pairs[i+1]
		n, f := entryOf(want)(text)
		got, _ := syntax.Text(n)
		if f != (api.Fault{}) || got != want {
			t.Errorf("%s\n got %v %s\nwant %s", text, f, got, want)
		}
		if _, f := syntax.Read(want); f.Code != api.OK {
			t.Errorf("the form is wrong: %v %s", f, want)
		}
	}
}

func TestExamples(t *testing.T) {
	expectForms(t,
		`(SUnit (SVal "x" (SMods) (SNone) (XInfix "+" (XInt 1) (XInfix "*" (XInt 2) (XName "y")))))`, "val x = 1 + 2 * y",
		`(XIf (XName "a") (XName "b") (XName "c"))`, "if (a) b else c",
		`(XApply (XApply (XName "f") (XLambda (SLambdaParam "x" (SNone)) (XSelect "y" (XName "x")))) (XInt 1))`, "f(x => x.y)(1)",
		`(SUnit (SDef "f" (SMods) (SNames) (SLists) (SNone) (XBlock (XName "g"))))`, "def f = \n  g",
	)
}

func TestUnits(t *testing.T) {
	expectForms(t,
		`(SUnit)`, "",
		`(SUnit)`, ";;\n;",
		`(SUnit)`, "// nothing",
		`(SUnit (SImport "a") (SImport "b"))`, "import a; import b",
		`(SUnit (SImport "a") (SImport "b"))`, "\n;import a\n;\n\nimport b;;",
		`(SUnit (SImport "a.b.C"))`, "import a.b.C",
		`(SUnit (SImport "a.*") (SImport "b"))`, "import a.*;import b",
		`(SUnit (SImport "a.b.*"))`, "import a . b . *",
		`(SUnit (SImport "a.b.c.d.e.f.g.*"))`, "import a.b.c.d.e.f.g.*",
	)
}

func TestMods(t *testing.T) {
	expectForms(t,
		`(SUnit (SVal "x" (SMods 1) $- $-))`, "abstract val x",
		`(SUnit (SVal "x" (SMods 2) $- $-))`, "final val x",
		`(SUnit (SVal "x" (SMods 4) $- $-))`, "sealed val x",
		`(SUnit (SVal "x" (SMods 8) $- $-))`, "private val x",
		`(SUnit (SVal "x" (SMods 16) $- $-))`, "override val x",
		`(SUnit (SVal "x" (SMods 512) $- $-))`, "volatile val x",
		`(SUnit (SVal "x" (SMods 4096) $- $-))`, "inline val x",
		`(SUnit (SVal "x" (SMods 4639) $- $-))`, "inline volatile override private sealed final abstract val x",
		`(SUnit (SClass "A" 3 (SMods 2) $n $l $p $-))`, "final case class A",
		`(SUnit (SDef "f" (SMods 8) $n $l $- $-))`, "private def f",
		`(SUnit (SType "A" (SMods 8) $n $- $- $-))`, "private type A",
		`(SUnit (SGiven (SMods 8) $n $l A x))`, "private given A = x",
		`(SUnit (SVal "x" 2 (SMods 8) $- $-))`, "private lazy val x",
	)
}

func TestClasses(t *testing.T) {
	expectForms(t,
		`(SUnit (SClass "A" $m $n $l $p $-))`, "class A",
		`(SUnit (SClass "A" 1 $m $n $l $p $-))`, "trait A",
		`(SUnit (SClass "A" 2 $m $n $l $p $-))`, "object A",
		`(SUnit (SClass "A" 3 $m $n $l $p $-))`, "case class A",
		`(SUnit (SClass "A" 4 $m $n $l $p $-))`, "case object A",
		`(SUnit (SClass "A" 5 $m $n $l $p (SBody)))`, "enum A {}",
		`(SUnit (SClass "A" $m $n $l $p (SBody)))`, "class A { ; ; }",
		`(SUnit (SClass "A" $m $n (SLists (SParams) (SParams)) $p $-))`, "class A()()",
		`(SUnit (SClass "A" $m (SNames (STParam "B" $- $-)) (SLists (SParams (SParam "x" $m B $-))) (SParents (SParent C)) (SBody x)))`, "class A[B](x: B) extends C { x }",
		`(SUnit (SClass "A" 1 $m (SNames (STParam "B" $- $-)) (SLists (SParams)) (SParents (SParent C)) (SBody)))`, "trait A[B]() extends C {}",
		`(SUnit (SClass "A" 4 $m $n $l (SParents (SParent C)) (SBody)))`, "case object A extends C {}",
		`(SUnit (SClass "A" $m $n $l $p (SBody (SVal "x" $m $- $-) (SClass "B" $m $n $l $p (SBody x)) y)))`, "class A:\n  val x\n  class B:\n    x\n  y",
		`(SUnit (SClass "A" $m $n $l $p (SBody x)) (SClass "B" $m $n $l $p $-))`, "class A:\n  x\nclass B",
		`(SUnit (SClass "A" $m $n $l (SParents (SParent B) (SParent C) (SParent D)) $-))`, "class A extends B with C, D",
		`(SUnit (SClass "A" $m $n $l (SParents (SParent B) (SParent C)) $-))`, "class A\n  extends B\n  with C",
		`(SUnit (SClass "A" $m $n $l (SParents (SParent 1 B)) $-))`, "class A extends B()",
		`(SUnit (SClass "A" $m $n $l (SParents (SParent 1 B x (XAssign "=" y (XInt 1)))) $-))`, "class A extends B(x, y = 1)",
		`(SUnit (SClass "A" $m $n $l (SParents (SParent (TApply B C)) (SParent (TSelect "D" a))) $-))`, "class A extends B[C] with a.D",
		`(SUnit (SClass "A" $m $n $l (SParents (SParent (TFunction B C))) $-))`, "class A extends (B => C)",
	)
}

func TestEnums(t *testing.T) {
	expectForms(t,
		`(SUnit (SClass "A" 5 $m $n $l $p (SBody $c["B"]c)))`, "enum A { case B }",
		`(SUnit (SClass "A" 5 $m $n $l $p (SBody $c["B"]c $c["C"]c $c["D"]c)))`, "enum A { case B, C, D }",
		`(SUnit (SClass "A" 5 $m $n $l $p (SBody $c["B"]c (SVal "x" $m $- $-) $c["C"]c y)))`, "enum A:\n  case B\n  val x\n  case C\n  y",
		`(SUnit (SClass "A" 5 $m $n $l $p (SBody (SEnumCase "B" (SNames (STParam "C" $- $-)) (SLists (SParams)) (SParents (SParent 1 A x))))))`, "enum A { case B[C]() extends A(x) }",
		`(SUnit (SClass "A" 5 $m $n $l $p (SBody (SEnumCase "B" $n $l (SParents (SParent C) (SParent D))))))`, "enum A { case B extends C, D }",
		`(SUnit (SClass "A" 5 $m (SNames (STParam "B" $- $-)) (SLists (SParams)) (SParents (SParent C)) (SBody (SClass "D" 3 $m $n $l $p $-) (SClass "E" 4 $m $n $l $p $-))))`, "enum A[B]() extends C { case class D; case object E }",
	)
}

func TestMembers(t *testing.T) {
	expectForms(t,
		`(SUnit (SDef "f" $m $n $l $- $-))`, "def f",
		`(SUnit (SDef "+" $m $n $l $- $-))`, "def +",
		`(SUnit (SDef "::" $m $n (SLists (SParams (SParam "x" $m A $-))) B $-))`, "def ::(x: A): B",
		`(SUnit (SDef "f" $m (SNames (STParam "A" $- $-)) (SLists (SParams) (SParams 1 (SParam "x" $m A $-))) B x))`, "def f[A]()(using x: A): B = x",
		`(SUnit (SVal "x" $m $- $-))`, "val x",
		`(SUnit (SVal "x" 1 $m A y))`, "var x: A = y",
		`(SUnit (SVal "x" 2 $m $- y))`, "lazy val x = y",
		`(SUnit (SType "A" $m $n $- $- $-))`, "type A",
		`(SUnit (SType "A" $m $n B C $-))`, "type A >: B <: C",
		`(SUnit (SType "A" $m $n $- C $-))`, "type A <: C",
		`(SUnit (SType "A" $m (SNames (STParam "B" $- $-)) $- $- C))`, "type A[B] = C",
		`(SUnit (SGiven $m $n $l A x))`, "given A = x",
		`(SUnit (SGiven $m $n $l (TApply A B) x))`, "given A[B] = x",
		`(SUnit (SGiven $m $n $l (TApply (TApply A B) C) x))`, "given A[B][C] = x",
		`(SUnit (SGiven "A" $m $n $l B x))`, "given A: B = x",
		`(SUnit (SGiven "A" $m $n (SLists (SParams)) B x))`, "given A(): B = x",
		`(SUnit (SGiven "A" $m (SNames (STParam "C" $- $-)) $l B x))`, "given A[C]: B = x",
		`(SUnit (SGiven "A" $m (SNames (STParam "C" $- (TApply D E))) (SLists (SParams 1 (SParam "y" $m C $-))) B x))`, "given A[C <: D[E]](using y: C): B = x",
		`(SUnit (SGiven $m $n $l (TFunction A B) x))`, "given A => B = x",
		`(SUnit (SGiven $m $n $l (TFunction A B) x))`, "given (A) => B = x",
		`(SUnit (SGiven $m $n $l (TSelect "A" (XThis)) x))`, "given this.A = x",
	)
}

func TestExtensions(t *testing.T) {
	def := `(SDef "f" $m $n $l $- x)`
	expectForms(t,
		`(SUnit (SExtension $n (SParam "y" $m A $-) `+def+`))`, "extension (y: A) def f = x",
		`(SUnit (SExtension (SNames (STParam "B" $- $-)) (SParam "y" $m A $-) `+def+`))`, "extension [B](y: A) { def f = x }",
		`(SUnit (SExtension $n (SParam "y" $m A $-) `+def+` (SDef "g" (SMods 8) $n $l $- $-)))`, "extension (y: A) { ; def f = x; private def g; }",
		`(SUnit (SExtension $n (SParam "y" $m A $-) `+def+` (SDef "g" (SMods 4096) $n $l $- $-)))`, "extension (y: A):\n  def f = x\n  inline def g",
		`(SUnit (SExtension $n (SParam "y" $m A $-) (SDef "g" (SMods 4096) $n $l $- $-)) (SVal "x" $m $- $-))`, "extension (y: A) inline def g\nval x",
	)
}

func TestParams(t *testing.T) {
	expectForms(t,
		`(SUnit (SDef "f" $m (SNames (STParam "A" 1 $- $-) (STParam "B" -1 $- $-)) $l $- $-))`, "def f[+A, -B]",
		`(SUnit (SDef "f" $m (SNames (STParam "A" B C)) $l $- $-))`, "def f[A >: B <: C]",
		`(SUnit (SDef "f" $m (SNames (STParam "A" -1 B C $- $- $-)) $l $- $-))`, "def f[-A[_, _, _] >: B <: C]",
		`(SUnit (SDef "f" $m $n (SLists (SParams (SParam "x" 1 $m A $-) (SParam "y" 2 $m B $-) (SParam "z" $m C (XInt 1)))) $- $-))`, "def f(x: => A, y: B*, z: C = 1)",
		`(SUnit (SDef "f" $m $n (SLists (SParams (SParam "x" 5 (SMods 8) A $-) (SParam "y" 6 (SMods 2) B $-) (SParam "z" 4 $m C $-))) $- $-))`, "def f(private val x: => A, final val y: B*, val z: C)",
		`(SUnit (SDef "f" $m $n (SLists (SParams (SParam "x" 9 $m A $-) (SParam "y" 10 $m (TFunction A B) x) (SParam "z" 8 $m C $-))) $- $-))`, "def f(var x: => A, var y: A => B * = x, var z: C)",
		`(SUnit (SDef "f" $m $n (SLists (SParams 1) (SParams 1 (SParam "x" $m A $-))) $- $-))`, "def f(using)(using x: A)",
	)
}

func TestTypes(t *testing.T) {
	expectForms(t,
		`(TName "A")`, "A",
		`(TName "A")`, "\n;((A))\n;",
		`(TApply A B C)`, "A[B, C]",
		`(TApply (TApply A B) C)`, "A[B][C]",
		`(TApply A (TWild $- $-) (TWild B C) (TWild $- C))`, "A[_, _ >: B <: C, _ <: C]",
		`(TApply (TFunction A B) C)`, "(A => B)[C]",
		`(TSelect "A" x)`, "x.A",
		`(TSelect "A" (XSelect "z" (XSelect "y" x)))`, "x.y.z.A",
		`(TSelect "A" (XThis))`, "this.A",
		`(TSelect "A" (XSelect "x" (XThis)))`, "this.x.A",
		`(TSingle x)`, "x.type",
		`(TSingle (XSelect "y" x))`, "x.y.type",
		`(TSingle (XThis))`, "this.type",
		`(TSingle (XSelect "x" (XThis)))`, "this.x.type",
		`(TApply (TSelect "A" x) B)`, "x.A[B]",
		`(TOr (TOr A B) C)`, "A | B | C",
		`(TAnd (TAnd A B) C)`, "A & B & C",
		`(TOr (TAnd A B) (TAnd C D))`, "A & B | C & D",
		`(TAnd (TOr A B) C)`, "(A | B) & C",
		`(TOr A (TOr B C))`, "A | (B | C)",
		`(TFunction A B)`, "A => B",
		`(TFunction A (TFunction B C))`, "A => B => C",
		`(TFunction (TFunction A B) C)`, "(A => B) => C",
		`(TFunction (TFunction A B) C)`, "((A => B)) => C",
		`(TFunction (TOr A B) (TOr C D))`, "A | B => C | D",
		`(TFunction A)`, "() => A",
		`(TFunction A B)`, "(A) => B",
		`(TFunction A B C)`, "(A, B) => C",
		`(TFunction (TFunction A B) C D)`, "(A => B, C) => D",
		`(TOr A (TFunction B C))`, "A | (B => C)",
		`(TLambda (SNames (STParam "A" 1 $- B)) C)`, "[+A <: B] =>> C",
		`(TLambda (SNames (STParam "A" $- $-) (STParam "B" $- $-)) (TFunction A B C))`, "[A, B] =>> (A, B) => C",
		`(TMatch A (TCase B C))`, "A match { case B => C }",
		`(TMatch A (TCase B C) (TCase (TOr D E) (TFunction F G)))`, "A match { ; case B => C\n case D | E => F => G; }",
		`(TMatch (TOr A B) (TCase C (TMatch D (TCase E F))) (TCase A B))`, "A | B match\n  case C => D match\n    case E => F\n  case A => B",
		`(TFunction A (TMatch B (TCase C D)))`, "A => B match { case C => D }",
	)
}

func TestLayouts(t *testing.T) {
	expectForms(t,
		`(XIf a (XBlock b c) (XBlock d))`, "if a then\n  b\n  c\nelse\n  d",
		`(XIf a b c)`, "if (a) b\nelse c",
		`(XIf a b c)`, "if (a) b;\nelse c",
		`(XIf a b c)`, "if (a) b ; ; else c",
		`(XWhile a (XBlock b))`, "while a do\n  b",
		`(XTry (XBlock a) (SCases (SCase $w $- (XBlock b)) (SCase $w $- c)) (XBlock d))`, "try\n  a\ncatch\n  case _ =>\n    b\n  case _ => c\nfinally\n  d",
		`(XThrow (XBlock a))`, "throw\n  a",
		`(XReturn (XBlock a))`, "return\n  a",
		`(XLambda (SLambdaParam "x" $-) (XBlock a b))`, "x =>\n  a\n  b",
		`(XAssign "=" x (XBlock a b))`, "x =\n  a\n  b",
		`(XFor 1 (SGenerator (PBind "x" $w) (XBlock a)) (XBlock b))`, "for x <-\n    a\nyield\n  b",
		`(XApply f (XBlock (XLambda (SLambdaParam "x" $-) (XBlock a b))))`, "f { x =>\n  a\n  b\n}",
		`(XInfix "+" (XSelect "b" (XApply f a)) c)`, "f(a)\n.b\n+ c",
		`(XNew (SParents (SParent A)) (SBody (SVal "x" $m $- $-) y))`, "new A:\n  val x\n  y",
		`(XAssign "=" x (XSelect "b" (XBlock a)))`, "x =\n  a\n.b",
	)
}

func TestControl(t *testing.T) {
	expectForms(t,
		`(XIf a b $-)`, "if (a) b",
		`(XIf a b c)`, "if (a) then b else c",
		`(XIf a b c)`, "if a then b else c",
		`(XIf a (XIf b c d) $-)`, "if (a) if (b) c else d",
		`(XIf a (XPrefix "-" b) $-)`, "if (a) -b",
		`(XIf (XAssign "=" a b) (XAssign "=" c d) (XAssign "=" x y))`, "if a = b then c = d else x = y",
		`(XIf (XIf a b c) d $-)`, "if if a then b else c then d",
		`(XWhile a b)`, "while (a) b",
		`(XWhile a b)`, "while (a) do b",
		`(XWhile a b)`, "while a do b",
		`(XWhile (XInfix "<" a b) (XBlock c))`, "while a < b do { c }",
		`(XTry a (SCases) $-)`, "try a",
		`(XTry a (SCases) b)`, "try a finally b",
		`(XTry a (SCases) b)`, "try a;; finally b",
		`(XTry a (SCases (SCase $w $- b)) c)`, "try a; catch case _ => b; finally c",
		`(XTry a (SCases (SCase $w $- b)) c)`, "try a catch { case _ => b } finally c",
		`(XTry (XTry a (SCases (SCase $w $- b)) c) (SCases) d)`, "try try a catch case _ => b finally c finally d",
		`(XThrow (XThrow a))`, "throw throw a",
		`(XReturn $-)`, "return",
		`(XReturn (XReturn (XPrefix "!" a)))`, "return return !a",
		`(XReturn (XLambda (SLambdaParam "_" $-) a))`, "return _ => a",
		`(XBlock (XReturn $-) (XReturn (XUnit)) (XReturn $-) (XReturn (XBlock)))`, "{ return; return (); return\nreturn {} }",
		`(XIf a (XReturn $-) (XReturn $-))`, "if (a) return else return",
		`(XTyped (XReturn $-) A)`, "(return: A)",
		`(XApply f (XReturn $-) (XReturn (XThis)))`, "f(return, return this)",
	)
	for _, s := range []string{"a", "1", "1L", "'c'", `"s"`, `s"s"`, "-a", "true", "null", "if (a) b", "while (a) b", "for (x <- a) b", "try a", "throw a", "new A", "super.a", "'{a}", "${a}", "false"} {
		n, f := Expr("return " + s)
		want, g := Expr(s)
		if f.Code != api.OK || g.Code != api.OK || n.Kind != syntax.XReturn || !syntax.Equal(n.Kids[0], want) {
			t.Errorf("return %s: %v", s, f)
		}
	}
}

func TestLambdas(t *testing.T) {
	expectForms(t,
		`(XLambda (SLambdaParam "x" $-) (XLambda (SLambdaParam "_" $-) a))`, "x => _ => a",
		`(XLambda a)`, "() => a",
		`(XLambda (SLambdaParam "x" $-) a)`, "(x) => a",
		`(XLambda (SLambdaParam "x" A) (SLambdaParam "_" $-) (SLambdaParam "_" (TOr B C)) (XAssign "=" a b))`, "(x: A, _, _: B | C) => a = b",
		`(XLambda (SLambdaParam "x" (TFunction A B)) a)`, "(x: (A => B)) => a",
		`(XAssign "=" a (XLambda (SLambdaParam "x" $-) b))`, "a = x => b",
		`(XInfix "+" a (XLambda (SLambdaParam "x" $-) b))`, "a + (x => b)",
		`(XTyped (XLambda (SLambdaParam "x" $-) b) (TFunction A B))`, "(x => b: A => B)",
		`(XApply f (XBlock (XLambda (SLambdaParam "x" $-) a) b))`, "f { x => a; b }",
		`(XIf (XLambda (SLambdaParam "x" $-) a) b $-)`, "if x => a then b",
	)
}

func TestFors(t *testing.T) {
	x, y := `(SGenerator (PBind "x" $w) a)`, `(SGenerator (PBind "y" $w) b)`
	all := ` ` + x + ` (SGuard b) (SBinding (PBind "z" $w) c) ` + y + ` (SGuard c) (SGuard d) e)`
	expectForms(t,
		`(XFor `+x+` b)`, "for (x <- a) b",
		`(XFor `+x+` b)`, "for { x <- a } b",
		`(XFor `+x+` b)`, "for (x <- a) do b",
		`(XFor `+x+` b)`, "for x <- a do b",
		`(XFor 1 `+x+` b)`, "for (x <- a) yield b",
		`(XFor 1 `+x+` b)`, "for x <- a yield b",
		`(XFor 1`+all, "for { x <- a if b; z = c; y <- b if c; if d } yield e",
		`(XFor 1`+all, "for (;x <- a; if b; z = c; y <- b; if c if d;) yield e",
		`(XFor`+all, "for {\n  x <- a\n  if b\n  z = c\n  y <- b\n  if c\n  if d\n}\ndo e",
		`(XFor 1`+all, "for\n  x <- a\n    if b\n  z = c\n  y <- b\n  if c if d\nyield e",
		`(XFor`+all, "for ; x <- a if b; z = c; y <- b if c if d; do e",
		`(XFor (SGenerator (PAlt (PTyped "x" A) (PLiteral (XInt 1))) a) (SBinding (PApply "A" (PBind "x" $w)) b) c)`, "for (x: A | 1 <- a; A(x) = b) c",
		`(XFor (SGenerator (PBind "x" $w) a) b)`, "for (x) <- a do b",
		`(XFor (SGenerator (PAlt (PLiteral (XInt 1)) $w) a) b)`, "for (1) | _ <- a do b",
		`(XFor (SGenerator (PLiteral (XUnit)) a) b)`, "for () <- a do b",
		`(XFor (SGenerator (PBind "x" $w) a) (XFor (SGenerator (PBind "y" $w) b) c))`, "for (x <- a) for (y <- b) c",
	)
}

func TestOperators(t *testing.T) {
	expectForms(t,
		`(XInfix "-" (XInfix "+" a b) c)`, "a + b - c",
		`(XInfix "::" a (XInfix ":::" b c))`, "a :: b ::: c",
		`(XInfix "+:" a (XInfix "-:" (XInfix "*" b c) d))`, "a +: b * c -: d",
		`(XInfix "+" (XInfix "+" a (XInfix "*:" b (XInfix "/:" c d))) e)`, "a + b *: c /: d + e",
		`(XInfix "<" (XInfix "+:" a b) (XInfix "+" c d))`, "a +: b < c + d",
		`(XInfix "<" (XInfix "+" a b) (XInfix "+:" c d))`, "a + b < c +: d",
		`(XInfix "|" a (XInfix "^" b (XInfix "&" c (XInfix "==" d (XInfix "<" e (XInfix "::" f (XInfix "+" g (XInfix "*" x (XInfix "~~" y z)))))))))`, "a | b ^ c & d == e < f :: g + x * y ~~ z",
		`(XInfix "|" (XInfix "^" (XInfix "&" (XInfix "!=" (XInfix ">" (XInfix "::" (XInfix "-" (XInfix "%" (XInfix "?" a b) c) d) e) f) g) x) y) z)`, "a ? b % c - d :: e > f != g & x ^ y | z",
		`(XInfix ">>" (XInfix "<=" a b) c)`, "a <= b >> c",
		`(XInfix "-" a (XPrefix "-" (XPrefix "!" b)))`, "a - - !b",
		`(XInfix "*" (XPrefix "-" a) (XPrefix "~" b))`, "-a * ~b",
		`(XPrefix "+" (XSelect "b" a))`, "+a.b",
		`(XPrefix "-" (XInt 1))`, "-1",
		`(XAssign "=" a (XAssign "+=" b (XAssign "::=" c d)))`, "a = b += c ::= d",
		`(XAssign "=" (XInfix "+" a b) (XInfix "+" c d))`, "a + b = c + d",
		`(XInfix "+" (XPrefix "-" a) (XBlock b))`, "- a + { b }",
	)
}

func TestAtoms(t *testing.T) {
	expectForms(t,
		`(XInt 2147483647)`, "2147483647",
		`(XLong 9223372036854775807)`, "9223372036854775807L",
		`(XInt)`, "0",
		`(XChar 10)`, `'\n'`,
		`(XChar 255)`, `'\xff'`,
		`(XString "a\n")`, `"a\n"`,
		`(XString)`, `""`,
		`(XTrue)`, "true",
		`(XFalse)`, "false",
		`(XNull)`, "null",
		`(XUnit)`, "()",
		`(XThis)`, "this",
		`(XInfix "+" a b)`, "((a) + ((b)))",
		`(XTyped (XAssign "=" a b) (TFunction A B))`, "(a = b: A => B)",
		`(XSelect "x" (XSuper))`, "super.x",
		`(XSelect "+" (XSuper "A"))`, "super[A].+",
		`(XBlock)`, "{}",
		`(XBlock (SVal "x" $m $- $-) (SClass "A" 3 $m $n $l $p $-) (SImport "a") x)`, "{ val x; case class A; import a; x }",
		`(XBlock (SClass "A" 1 $m $n $l $p $-) (SClass "A" 2 $m $n $l $p $-) (SClass "A" 5 $m $n $l $p (SBody)) (SClass "A" $m $n $l $p $-))`, "{ trait A; object A; enum A {}; class A }",
		`(XBlock (SVal "x" 2 $m $- $-) (SVal "x" 1 $m $- $-) (SType "A" $m $n $- $- $-) (SGiven $m $n $l A x) (SDef "f" (SMods 2) $n $l $- $-))`, "{ lazy val x; var x; type A; given A = x; final def f }",
		`(XBlock (SExtension $n (SParam "x" $m A $-) (SDef "f" $m $n $l $- $-)) (XString "val") (XString "-"))`, `{ extension (x: A) def f; "val"; "-" }`,
		`(XNew (SParents (SParent A)) $-)`, "new A",
		`(XApply 1 (XNew (SParents (SParent A)) $-) x)`, "new A(using x)",
		`(XApply (XApply 1 (XNew (SParents (SParent 1 A x) (SParent (TApply B C))) $-)) y)`, "new A(x) with B[C](using)(y)",
		`(XSelect "+" (XNew (SParents (SParent A)) $-))`, "new A.+",
		`(XApply (XSelect "+" (XNew (SParents (SParent A)) $-)) (XInt 1))`, "new A.+(1)",
		`(XInfix "+" (XSelect "*" (XNew (SParents (SParent (TSelect "B" a))) $-)) x)`, "new a.B.* + x",
		`(XSelect "x" (XSelect "::" (XNew (SParents (SParent (TSelect "A" (XThis)))) $-)))`, "new this.A.::.x",
		`(XSelect "<=" (XNew (SParents (SParent A) (SParent (TSelect "B" a))) $-))`, "new A with a.B.<=",
		`(XSelect "+" (XNew (SParents (SParent (TApply A B))) $-))`, "new A[B].+",
		`(XSelect "+" (XNew (SParents (SParent (TSingle a))) $-))`, "new a.type.+",
		`(XSelect "+=" (XSelect "x" (XNew (SParents (SParent A)) $-)))`, "new (A).x.+=",
		`(XSelect "-" (XNew (SParents (SParent A)) (SBody)))`, "new A {}.-",
		`(XNew (SParents (SParent (TSelect "x" (XSelect "b" a)))) $-)`, "new a.b.x",
		`(XNew (SParents (SParent 1 A x) (SParent (TApply B C))) (SBody (SVal "x" $m $- $-)))`, "new A(x) with B[C] { val x }",
		`(XSelect "x" (XApply (XNew (SParents (SParent 1 A)) $-) a))`, "new A()(a).x",
		`(XTyped (XNew (SParents (SParent A)) $-) B)`, "(new A: B)",
		`(XQuote (XBlock a b))`, "'{ a; b }",
		`(XQuote (XBlock))`, "'{}",
		`(XSplice (XBlock (SVal "x" $m $- $-) x))`, "${ val x; x }",
		`(XQuote (XBlock (XInfix "+" (XSplice (XBlock a)) b)))`, "'{ ${a} + b }",
		`(XInterp "s" (XString))`, `s""`,
		`(XInterp "s" (XString "a") b (XString) (XThis) (XString "c"))`, `s"a$b${this}c"`,
		`(XInterp "f" (XString) (XThis) (XString " ") (XInfix "+" a (XInterp "s" (XString) b (XString))) (XString))`, `f"$this ${a + s"$b"}"`,
		`(XInterp "s" (XString) (XLambda (SLambdaParam "x" $-) (XBlock a b)) (XString))`, "s\"${\n  x =>\n    a\n    b\n}\"",
	)
}

func TestSimple(t *testing.T) {
	expectForms(t,
		`(XSelect "c" (XSelect "b" a))`, "a.b.c",
		`(XApply (XSelect "+" a) b)`, "a.+(b)",
		`(XTypes a A (TFunction B C))`, "a[A, B => C]",
		`(XTypes (XTypes a A) B)`, "a[A][B]",
		`(XApply f)`, "f()",
		`(XApply (XApply f a b) c)`, "f(a, b)(c)",
		`(XApply 1 f)`, "f(using)",
		`(XApply 1 f a (XNamed "x" b))`, "f(using a, x = b)",
		`(XApply f (XNamed "x" (XAssign "=" y z)) (XNamed "y" (XLambda (SLambdaParam "x" $-) a)))`, "f(x = y = z, y = x => a)",
		`(XApply f (XAssign "=" x y) (XAssign "=" (XSelect "y" x) z) (XAssign "+=" x y))`, "f((x = y), x.y = z, x += y)",
		`(XApply (XApply f (XBlock a)) (XBlock b))`, "f { a } { b }",
		`(XApply (XInt 1) (XBlock))`, "1 {}",
		`(XApply (XApply (XString "s") (XInt 1)) (XBlock))`, `"s"(1) {}`,
	)
}

func TestMatches(t *testing.T) {
	expectForms(t,
		`(XMatch a (SCase $w $- b))`, "a match { case _ => b }",
		`(XMatch a (SCase $w $- b) (SCase $w $- c) (SCase $w $- d))`, "a match { ; case _ => b case _ => c; ; case _ => d; }",
		`(XMatch (XMatch a (SCase $w $- b)) (SCase $w $- c))`, "a match { case _ => b } match { case _ => c }",
		`(XMatch (XInfix "+" a b) (SCase $w $- c))`, "a + b match { case _ => c }",
		`(XAssign "=" (XMatch a (SCase $w $- b)) c)`, "a match { case _ => b } = c",
		`(XMatch a (SCase $w b c))`, "a match { case _ if b => c }",
		`(XMatch a (SCase $w b c))`, "a match { case _ if (b) => c }",
		`(XMatch a (SCase $w (XInfix "<" a b) c) (SCase $w (XUnit) (XLambda (SLambdaParam "x" $-) a)))`, "a match { case _ if (a < b) => c; case _ if () => x => a }",
		`(XMatch a (SCase $w (XApply f (XLambda (SLambdaParam "x" $-) b)) c))`, "a match { case _ if f(x => b) => c }",
		`(XMatch a (SCase $w (XMatch b (SCase $w c d)) (XLambda (SLambdaParam "x" $-) a)))`, "a match { case _ if b match { case _ if c => d } => x => a }",
		`(XMatch a (SCase $w $- (XBlock)) (SCase $w $- (XBlock)) (SCase $w $- (XBlock)))`, "a match { case _ => case _ =>; case _ => }",
		`(XMatch a (SCase $w $- (XBlock b c d)))`, "a match { case _ => b; c\nd; }",
		`(XMatch a (SCase $w $- (XBlock (SVal "x" $m $- b))) (SCase $w $- (XBlock (SVal "x" $m $- $-) b)))`, "a match { case _ => val x = b case _ => val x; b }",
		`(XMatch a (SCase $w $- (XBlock b)) (SCase $w $- (XBlock c)) (SCase $w $- (XBlock)))`, "a match { case _ => { b } case _ => { c }; case _ => {} }",
		`(XMatch a (SCase $w $- (XSelect "c" (XBlock b))) (SCase $w $- (XInfix "+" (XBlock b) c)))`, "a match { case _ => { b }.c case _ => { b } + c }",
		`(XMatch a (SCase $w $- (XBlock b (XBlock c))) (SCase $w $- (XMatch (XBlock b) (SCase $w $- c))))`, "a match { case _ => b; { c }; case _ => { b } match { case _ => c } }",
		`(XMatch a (SCase $w $- (XBlock b c)) (SCase $w $- d))`, "a match\n  case _ =>\n    b\n    c\n  case _ => d",
		`(XMatch a (SCase $w $- (XBlock b c)) (SCase $w $- d))`, "a match\n  case _ => b\n    c\n  case _ => d",
		`(XMatch a (SCase $w $- (XMatch b (SCase $w $- c) (SCase $w $- d))))`, "a match\n  case _ => b match\n    case _ => c\n    case _ => d",
		`(XMatch a (SCase $w $- (XTry b (SCases (SCase $w $- c)) $-)) (SCase $w $- d))`, "a match { case _ => try b catch case _ => c; case _ => d }",
	)
}

// TestSingleCatch is about a case without an open: its statements go on, until something that it stands in does.
func TestSingleCatch(t *testing.T) {
	one, two := `(XTry a (SCases (SCase $w $- b)) $-)`, `(XTry a (SCases (SCase $w $- (XBlock b c))) $-)`
	expectForms(t,
		one, "try a catch case _ => b",
		one, "try a catch case _ => b;",
		two, "try a catch case _ => b; c",
		two, "try a catch case _ => b\nc",
		`(XBlock `+two+`)`, "{ try a catch case _ => b; c; }",
		`(XBlock (XTry a (SCases (SCase $w $- (XBlock b))) $-) c)`, "{ try a catch case _ => { b }; c }",
		`(XBlock (XTry a (SCases (SCase $w $- (XBlock b))) $-) c)`, "{\n  try a\n  catch case _ =>\n    b\n  c\n}",
		`(XApply f `+one+` c)`, "f(try a catch case _ => b, c)",
		`(XTyped `+one+` A)`, "(try a catch case _ => b: A)",
		`(XIf x `+one+` c)`, "if (x) try a catch case _ => b else c",
		`(XIf x `+one+` c)`, "if (x) try a catch case _ => b; else c",
		`(XFor 1 (SGenerator (PBind "x" $w) `+one+`) c)`, "for x <- try a catch case _ => b; yield c",
		`(XFor (SGenerator (PBind "x" $w) `+one+`) c)`, "for x <- try a catch case _ => b; do c",
		`(XTry `+one+` (SCases (SCase $w $- c)) $-)`, "try (try a catch case _ => b) catch case _ => c",
		`(XTry `+one+` (SCases (SCase $w $- c)) $-)`, "try try a catch case _ => b; catch case _ => c",
		`(XTry a (SCases (SCase $w $- (XBlock b (XString "else")))) $-)`, `try a catch case _ => b; "else"`,
		`(XTry a (SCases (SCase $w $- (XBlock))) $-)`, "try a catch case _ =>",
		`(XTry a (SCases (SCase $w $- (XBlock))) b)`, "try a catch case _ => finally b",
		`(SUnit (SVal "x" $m $- `+one+`))`, "val x = try a catch case _ => b;",
	)
}

func TestPatterns(t *testing.T) {
	expectForms(t,
		`(PWild)`, "_",
		`(PTyped "_" A)`, "_: A",
		`(PTyped "x" A)`, "x: A",
		`(PTyped "X" (TOr (TAnd A B) C))`, "X: A & B | C",
		`(PTyped "_" (TFunction A B))`, "_: (A => B)",
		`(PTyped "_" (TSingle a))`, "_: a.type",
		`(PLiteral (XInt 1))`, "1",
		`(PLiteral (XLong 1))`, "1L",
		`(PLiteral (XChar 97))`, "'a'",
		`(PLiteral (XString "s"))`, `"s"`,
		`(PLiteral (XTrue))`, "true",
		`(PLiteral (XFalse))`, "false",
		`(PLiteral (XNull))`, "null",
		`(PLiteral (XUnit))`, "()",
		`(PLiteral (XPrefix "-" (XInt 1)))`, "-1",
		`(PLiteral (XPrefix "-" (XLong 1)))`, "- 1L",
		`(PBind "x" $w)`, "x",
		`(PBind "_x" $w)`, "_x",
		`(PBind "zZ" $w)`, "((zZ))",
		`(PStable "X")`, "X",
		`(PStable "Xy")`, "Xy",
		`(PStable "x.y.z")`, "x.y.z",
		`(PApply "x")`, "x()",
		`(PApply "X" (PBind "x" $w) (PApply "A.b" (PLiteral (XInt 1))))`, "X(x, A.b(1))",
		`(PApply "A" (PAlt (PLiteral (XInt 1)) (PLiteral (XInt 2))))`, "A(1 | 2)",
		`(PBind "x" (PStable "A"))`, "x @ A",
		`(PBind "X" $w)`, "X @ _",
		`(PBind "x" (PTyped "y" A))`, "x @ y: A",
		`(PBind "x" (PAlt (PLiteral (XInt 1)) (PLiteral (XInt 2))))`, "x @ (1 | 2)",
		`(PAlt (PBind "x" (PLiteral (XInt 1))) (PLiteral (XInt 2)))`, "x @ 1 | 2",
		`(PAlt (PStable "A") (PStable "B") $w)`, "A | B | _",
		`(PAlt (PTyped "_" A) (PTyped "_" B))`, "_: A | _: B",
		`(PAlt (PTyped "x" (TOr A B)) (PTyped "y" C) (PLiteral (XInt 1)))`, "x: A | B | y: C | 1",
		`(PAlt (PTyped "_" A) (PApply "B") (PApply "c.D" $w) (PBind "x" $w))`, "_: A | B() | c.D(_) | (x)",
		`(PAlt (PTyped "_" A) (PApply "c.D" $w) (PStable "E"))`, "_: A | c.D(_) | E",
		`(PAlt (PTyped "_" (TOr A (TSingle c))) (PTyped "y" B))`, "_: A | c.type | y: B",
		`(PAlt (PTyped "_" A) (PBind "x" $w) (PLiteral (XUnit)) (PTyped "y" B))`, "_: A | x @ _ | () | (y: B)",
		`(PTyped "_" (TOr A (TFunction B C)))`, "_: A | (B => C)",
		`(PTyped "x" (TOr A (TFunction B)))`, "x: A | (() => B)",
		`(PTyped "x" (TOr A (TFunction B C)))`, "x: A | ((B) => C)",
		`(PTyped "x" (TOr A (TFunction B C D)))`, "x: A | ((B, C) => D)",
		`(PTyped "x" (TOr A (TAnd (TLambda (SNames (STParam "B" $- $-)) C) D)))`, "x: A | (([B] =>> C)) & D",
		`(PTyped "x" (TOr A (TMatch B (TCase C D))))`, "x: A | (B match { case C => D })",
		`(PTyped "x" (TOr (TOr A (TApply (TSelect "C" b) (TWild $- $-))) (TApply D A)))`, "x: A | b.C[_] | (D)[A]",
		`(PTyped "x" (TOr (TOr A (TFunction B)) C))`, "x: A | (() => B) | C",
		`(PAlt (PTyped "_" (TOr A (TFunction B))) (PLiteral (XUnit)))`, "_: A | (() => B) | ()",
		`(PAlt (PTyped "_" A) $w)`, "_: A | (_)",
		`(PAlt (PTyped "_" A) (PTyped "_" (TOr B C)) (PStable "D"))`, "_: A | ((_: B | C)) | D",
		`(PAlt (PTyped "_" A) (PBind "x" (PTyped "_" (TOr B C))))`, "_: A | (x @ (_: B | (C)))",
		`(PAlt (PTyped "_" A) (PApply "B" (PTyped "x" (TOr C D))))`, "_: A | (B(x: C | D))",
		`(PAlt (PTyped "_" A) (PApply "b.C") (PLiteral (XPrefix "-" (XInt 1))))`, "_: A | (b.C()) | -1",
		`(PApply "A" (PTyped "x" (TOr B (TFunction C))) (PTyped "y" (TOr A B)))`, "A(x: B | (() => C), y: A | B)",
		`(PTyped "_" (TOr (TOr A (TSelect "B" c)) (TSingle (XThis))))`, "_: A | c.B | this.type",
	)
}

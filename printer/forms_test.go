package printer

import (
	"testing"

	"newel/api"
	"newel/parser"
	"newel/syntax"
)

// formats has texts and what they are in both styles. The second one is left out where it is the first one.
var formats = [...][3]string{
	{"", "", ""},
	{"val x = 1; lazy val y: Int = {2}; var z: A",
		"val x = 1\nlazy val y: Int = {\n  2\n}\nvar z: A\n",
		"val x = 1\nlazy val y: Int =\n  2\nvar z: A\n"},
	{"import a; import a.b.*; import a.b", "import a\nimport a.b.*;\nimport a.b\n", ""},
	{"inline volatile override private sealed final abstract class A", "abstract final sealed private override volatile inline class A\n", ""},
	{"trait B[+X,-Y>:L<:H,F[_,_]](val x:A,private var y: =>B=c,z:C*)(using w:D)(using)()",
		"trait B[+X, -Y >: L <: H, F[_, _]](val x: A, private var y: => B = c, z: C*)(using w: D)(using)()\n", ""},
	{"case class C() extends p.D[E](1,2),F with (G|H)() ; object O extends this.type{}; case object P{a}",
		"case class C() extends p.D[E](1, 2) with F with (G | H)()\nobject O extends this.type {}\ncase object P {\n  a\n}\n",
		"case class C() extends p.D[E](1, 2) with F with (G | H)()\nobject O extends this.type {}\ncase object P:\n  a\n"},
	{"enum E[T](x:T){case A,B;case C[U](y:U) extends E[U](y);case class D;case object F;val c=1};enum G{}",
		"enum E[T](x: T) {\n  case A\n  case B\n  case C[U](y: U) extends E[U](y)\n  case class D\n  case object F\n  val c = 1\n}\nenum G {}\n",
		"enum E[T](x: T):\n  case A\n  case B\n  case C[U](y: U) extends E[U](y)\n  case class D\n  case object F\n  val c = 1\nenum G {}\n"},
	{"def +[A](x:A):B=c;def * :T;def *;def f={};private def h(using)={a;b};def ::(x:A)(y:B)",
		"def +[A](x: A): B = c\ndef * : T\ndef *;\ndef f = {}\nprivate def h(using) = {\n  a\n  b\n}\ndef ::(x: A)(y: B)\n",
		"def +[A](x: A): B = c\ndef * : T\ndef *;\ndef f = {}\nprivate def h(using) =\n  a\n  b\ndef ::(x: A)(y: B)\n"},
	{"type A;type B[X]=X match{case A=>B;case C=>p.type;case D=>E match{case F=>G}};type C>:A<:B;type D<:A=>B",
		"type A\ntype B[X] = X match {\n  case A => B\n  case C => p.type;\n  case D => E match {\n    case F => G\n  }\n}\ntype C >: A <: B\ntype D <: A => B\n",
		"type A\ntype B[X] = X match\n  case A => B\n  case C => p.type;\n  case D => E match\n    case F => G\ntype C >: A <: B\ntype D <: A => B\n"},
	{"given A=a;given F[A]={b};given x[T](using y:T):F[T]=c;final given z:A match{case B=>C}=d",
		"given A = a\ngiven F[A] = {\n  b\n}\ngiven x[T](using y: T): F[T] = c\nfinal given z: A match {\n  case B => C\n} = d\n",
		"given A = a\ngiven F[A] =\n  b\ngiven x[T](using y: T): F[T] = c\nfinal given z: A match {\n  case B => C\n} = d\n"},
	{"extension(x:A)def f={a};extension[T](x:T){private def+(y:T):T=x;def - :A}",
		"extension (x: A) {\n  def f = {\n    a\n  }\n}\nextension [T](x: T) {\n  private def +(y: T): T = x\n  def - : A\n}\n",
		"extension (x: A):\n  def f =\n    a\nextension [T](x: T):\n  private def +(y: T): T = x\n  def - : A\n"},
	{"def f=if a then b;def g=if(a){b}else{c};def h=if(a)b else if(c){d}else e;def i=if(a)(if(b)c)else d;def j=if(a){b}else c",
		"def f = if (a) b\ndef g = if (a) {\n  b\n} else {\n  c\n}\ndef h = if (a) b else if (c) {\n  d\n} else e\ndef i = if (a) (if (b) c) else d\ndef j = if (a) {\n  b\n} else c\n",
		"def f = if (a) then b\ndef g = if (a) then\n  b\nelse\n  c\ndef h = if (a) then b else if (c) then\n  d\nelse e\ndef i = if (a) then (if (b) c) else d\ndef j = if (a) then\n  b\nelse c\n"},
	{"def f=while(a){b;c};def g=while a do b;def h=for x<-xs;y=x;if y do{a};def i=for{(a|B)<-b;c:D<-e}yield f",
		"def f = while (a) {\n  b\n  c\n}\ndef g = while (a) b\ndef h = for (x <- xs; y = x; if y) do {\n  a\n}\ndef i = for (a | B <- b; c: D <- e) yield f\n",
		"def f = while (a) do\n  b\n  c\ndef g = while (a) do b\ndef h = for (x <- xs; y = x; if y) do\n  a\ndef i = for (a | B <- b; c: D <- e) yield f\n"},
	{"def f=a match{case 1=>b;c;case x:A|B if(c)=>{d};case x@(1|2)=>e match{case _=>};case y=>return;case z=>a.+}",
		"def f = a match {\n  case 1 => {\n    b\n    c\n  }\n  case x: A | B if c => {\n    d\n  }\n  case x @ (1 | 2) => e match {\n    case _ => {}\n  }\n  case y => return;\n  case z => a.+\n}\n",
		"def f = a match\n  case 1 =>\n    b\n    c\n  case x: A | B if c =>\n    d\n  case x @ (1 | 2) => e match\n    case _ => {}\n  case y => return\n  case z => a.+\n"},
	{"def f=try{a}catch{case e:E=>b;c}finally{d};def g=try a finally b;def h=try(try a)catch{case _=>b};def i=try a;def j=throw{a}",
		"def f = try {\n  a\n} catch {\n  case e: E => {\n    b\n    c\n  }\n} finally {\n  d\n}\ndef g = try a finally b\ndef h = try (try a) catch {\n  case _ => b\n}\ndef i = try a\ndef j = throw {\n  a\n}\n",
		"def f = try\n  a\ncatch\n  case e: E =>\n    b\n    c\nfinally\n  d\ndef g = try a finally b\ndef h = try (try a) catch\n  case _ => b\ndef i = try a\ndef j = throw\n  a\n"},
	{"def f={return;a.+;x=>{y;z};(a,b:A)=>c;()=>d;_=>e;a={b};a+={b};return{c};return}",
		"def f = {\n  return;\n  a.+;\n  x => {\n    y\n    z\n  }\n  (a, b: A) => c\n  () => d\n  _ => e\n  a = {\n    b\n  }\n  a += {\n    b\n  }\n  return {\n    c\n  }\n  return\n}\n",
		"def f =\n  return\n  a.+;\n  x =>\n    y\n    z\n  (a, b: A) => c\n  () => d\n  _ => e\n  a =\n    b\n  a += {\n    b\n  }\n  return\n    c\n  return\n"},
	{"def f=new A{def g={h}};def i=(new A(1) with B).c;def j=new A{a}.b;def k=new A{}",
		"def f = new A {\n  def g = {\n    h\n  }\n}\ndef i = (new A(1) with B).c\ndef j = (new A {\n  a\n}).b\ndef k = new A {}\n",
		"def f = new A:\n  def g =\n    h\ndef i = (new A(1) with B).c\ndef j = (new A {\n  a\n}).b\ndef k = new A {}\n"},
	{"def f={a}+{b}.c;def g=f{a}{b};def h=f({a},x=>{b},(x=1),y=2)",
		"def f = {\n  a\n} + {\n  b\n}.c\ndef g = f {\n  a\n} {\n  b\n}\ndef h = f({\n  a\n}, x => {\n  b\n}, (x = 1), y = 2)\n", ""},
	{"def f='{a;${b}+c};def g=s\"a${b} c${d}e${f{a;b}}\"",
		"def f = '{\n  a\n  ${\n    b\n  } + c\n}\ndef g = s\"a$b c${d}e${f { a; b }}\"\n", ""},
	{"class A{class B{import a.*};class C};class D{def +};object E{def f={a.+};val x:p.type};object F",
		"class A {\n  class B {\n    import a.*\n  }\n  class C\n}\nclass D {\n  def +\n}\nobject E {\n  def f = {\n    a.+\n  }\n  val x: p.type\n}\nobject F\n",
		"class A:\n  class B:\n    import a.*\n  ;\n  class C\nclass D:\n  def +\n;\nobject E:\n  def f =\n    a.+\n  ;\n  val x: p.type\n;\nobject F\n"},
	{"def f={{class A{b}};a+={class A{b};x=>{c}}};type A<:B match{case C=>D}",
		"def f = {\n  {\n    class A {\n      b\n    }\n  }\n  a += {\n    class A {\n      b\n    }\n    x => {\n      c\n    }\n  }\n}\ntype A <: B match {\n  case C => D\n}\n",
		"def f =\n  {\n    class A {\n      b\n    }\n  }\n  a += {\n    class A {\n      b\n    }\n    x => {\n      c\n    }\n  }\ntype A <: B match {\n  case C => D\n}\n"},
	{"class A{def f={class B{val x={a}};f{class C{a;def g={b}}}}}",
		"class A {\n  def f = {\n    class B {\n      val x = {\n        a\n      }\n    }\n    f {\n      class C {\n        a\n        def g = {\n          b\n        }\n      }\n    }\n  }\n}\n",
		"class A:\n  def f =\n    class B:\n      val x =\n        a\n    f {\n      class C {\n        a\n        def g = {\n          b\n        }\n      }\n    }\n"},
}

func TestFormat(t *testing.T) {
	for _, c := range formats {
		want := [Styles]string{c[1], c[2]}
		if c[2] == "" {
			want[Indented] = c[1]
		}
		for style, s := range want {
			got, f := Format(c[0], style)
			if f.Code != api.OK || got != s {
				t.Errorf("%s\nstyle %d, %v:\n%s\nwant\n%s", c[0], style, f, got, s)
			}
		}
	}
}

// reader reads a text as an expression, a type or a pattern.
type reader = func(string) (syntax.Node, api.Fault)

func expectLine(t *testing.T, read reader, text, want string) {
	t.Helper()
	n, f := read(text)
	if f.Code != api.OK {
		t.Errorf("%s: %v", text, f)
		return
	}
	if want == "" {
		want = text
	}
	if got, e := Line(n); e != api.OK || got != want {
		t.Errorf("%s: %v, %s, want %s", text, e, got, want)
	}
}

// TestLineExpr has expressions and their lines, which are left out where they are the same.
func TestLineExpr(t *testing.T) {
	for _, c := range [...][2]string{
		{"x", ""}, {"12", ""}, {"7L", ""}, {"()", ""}, {"true", ""}, {"false", ""}, {"null", ""}, {"this", ""}, {"{}", ""}, {"((a))", "a"},
		{`'a'`, ""}, {`'\''`, ""}, {`'"'`, ""}, {`'\x7b'`, ""}, {`'\x0a'`, `'\n'`}, {`'\xff'`, ""}, {`"a\"\'\$\t\x00{"`, `"a\"'$\t\x00{"`},
		{"a.b.+.c", ""}, {"super.a", ""}, {"super[A].+", ""}, {"1.a", ""}, {`"a".b`, ""}, {"(-a).b", ""}, {"-a.b", ""}, {"(a + b).c", ""}, {"(new A).b", ""}, {"(x => y).b", ""},
		{"f(a, b)(c)", ""}, {"f()", ""}, {"f(using)", ""}, {"f(using a, b)", ""}, {"f(a, b = c, d = e = f)", ""}, {"f((a = b))", ""}, {"f(a.b = c)", ""}, {"f(a += b)", ""},
		{"f({ a })", "f { a }"}, {"f{}", "f {}"}, {"f(using {a})", "f(using { a })"}, {"f({a},b)", "f({ a }, b)"}, {"(new A)(b)", ""}, {"(new A){b}", "(new A) { b }"},
		{"a[A, B => C]", ""}, {"(new A)[B]", ""}, {"a[A][B](c)", ""},
		{"a + b * c", ""}, {"(a + b) * c", ""}, {"a + b + c", ""}, {"a + (b + c)", ""}, {"a :: b :: c", ""}, {"(a :: b) :: c", ""}, {"(a + b) +: c", ""}, {"(a +: b) + c", ""}, {"a + (b +: c)", ""},
		{"a +: (b + c)", ""}, {"(a = b) + c", ""}, {"a + (if (b) c)", ""}, {"-a + -b", ""}, {"a * -b", ""}, {"a.+ + b", ""}, {"(a match { case b => c }) + d", ""}, {"-(a + b)", ""},
		{"-(-a)", ""}, {"! (-a)", "!(-a)"}, {"-new A", ""}, {"~{a}", "~{ a }"}, {"-1", ""}, {"+(a = b)", ""},
		{"a = b = c", ""}, {"(a = b) = c", ""}, {"a.b += c", ""}, {"a + b = c", ""}, {"a match { case b => c } = d", ""}, {"(x => a) = b", ""},
		{`s""`, ""}, {`s"a$b c${a}b$c"`, ""}, {`s"$this${1}${a + b}"`, `s"${this}${1}${a + b}"`}, {`s"${a}_\$\"\n"`, ""}, {`s"${a}-$b$c"`, `s"$a-$b$c"`}, {`s"${a}0${a}9${a}A${a}Z${a}a${a}z${a}_"`, ""}, {`s"${a}/${a}:${a}@${a}[${a}\x60${a}{"`, "s\"$a/$a:$a@$a[$a`$a{\""}, {`s"${ {a;b} }"`, `s"${{ a; b }}"`},
		{"if (a) b else c", ""}, {"if a then b", "if (a) b"}, {"if (a) if (b) c else d", ""}, {"if (a) (if (b) c) else d", ""}, {"if (a) (while (b) if (c) d) else e", ""}, {"if (a) x => if (b) c else d else e", ""},
		{"if (a) (try b finally if (c) d) else e", ""}, {"if (a) try if (b) c catch { case d => e } else f", ""}, {"if (a) { if (b) c } else d", ""}, {"if (a) f(if (b) c) else d", ""},
		{"while (a) b", ""}, {"while a do {b}", "while (a) { b }"}, {"for (a <- b) do c", ""}, {"for (a <- b; c = d; if e; f <- g) yield h", ""}, {"for ((a) <- b) c", "for (a <- b) do c"},
		{"a match { case b => c; case D if e => f }", ""}, {"a match { case b => { c; d } }", ""}, {"a match { case b if (c => d) => e }", ""}, {"a match { case b if (c match { case d => e }) => f }", ""},
		{"a match { case b => c } match { case d => e }", ""}, {"(if (a) b) match { case c => d }", ""}, {"a match { case b => }", "a match { case b => {} }"},
		{"try a", ""}, {"try a finally b", ""}, {"try a catch { case b => c } finally d", ""}, {"try a catch case b => c", "try a catch { case b => c }"}, {"try (try a) catch { case b => c }", ""},
		{"try (try a) finally b", ""}, {"try (try a catch { case b => c }) finally d", ""}, {"try try a finally b catch { case c => d }", ""}, {"try (throw try a) catch { case c => d }", ""},
		{"try (if (a) try b) catch { case c => d }", ""}, {"try (if (a) b else try c) catch { case d => e }", ""}, {"if (a) try b else c", ""}, {"if (a) (try if (b) c) else d", ""}, {"if (a) try b catch { case c => if (d) e } else f", ""},
		{"try try a catch { case b => c } catch { case d => e }", ""}, {"try if (a) b finally c", ""}, {"try (if (a) b else x => try c) finally d", ""}, {"if (a) (return if (b) c) else d", ""}, {"if (a) (b = if (c) d) else e", ""},
		{"if (a) return else b", ""}, {"if (a) (for (b <- c) do if (d) e) else f", ""}, {"if (a) (for (b <- if (c) d) yield if (e) f else g) else h", "if (a) for (b <- if (c) d) yield if (e) f else g else h"},
		{"throw a", ""}, {"throw {a}", "throw { a }"}, {"return", ""}, {"return a", ""}, {"f(return, return a)", ""},
		{"x => y", ""}, {"(x) => y", "x => y"}, {"_ => y", ""}, {"() => y", ""}, {"(x: A) => y", ""}, {"(x, _: (A => B)) => { y }", ""}, {"x => y => z", ""}, {"(x => y)(z)", ""},
		{"new A", ""}, {"new A(b) with C[D]() { e }", ""}, {"new (A | B)", ""}, {"new a.B {}", ""}, {"new A match { case b => c }", ""}, {"(new A: B)", ""},
		{"(a: A => B)", ""}, {"(a.+ : A)", ""}, {"((a: A): B)", ""}, {"(a = b: C)", ""}, {"'{ a; b }", ""}, {"'{}", ""}, {"${ a }", ""}, {"'{ ${ a } }", ""},
		{"{ return; import a.*; def * ; val x: p.type; a.+ }", "{ return; import a.*; def *; val x: p.type; a.+ }"},
		{"{ class A { def f = { a; b } }; enum E { case A; case B }; extension (x: A) { def f = x } }", ""},
	} {
		expectLine(t, parser.Expr, c[0], c[1])
	}
}

func TestLineType(t *testing.T) {
	for _, c := range [...][2]string{
		{"A", ""}, {"(A)", "A"}, {"a.B", ""}, {"this.a.B", ""}, {"a.b.type", ""}, {"this.type", ""}, {"A[B, _, _ <: C, _ >: D <: E]", ""}, {"A[B][C]", ""}, {"(A | B)[C]", ""}, {"a.type[B]", ""},
		{"() => A", ""}, {"A => B => C", ""}, {"(A => B) => C", ""}, {"(A) => B", "A => B"}, {"(A, B => C) => D", ""}, {"A | B => C", ""}, {"A & B | C & D", ""}, {"(A | B) & C", ""},
		{"A | (B | C)", ""}, {"(A | B) | C", "A | B | C"}, {"A & (B & C)", ""}, {"A | (B => C)", ""}, {"[X, +F[_] <: A] =>> F[X]", ""}, {"([X] =>> X)[A]", ""},
		{"A match { case B => C; case D => E => F }", ""}, {"(A => B) match { case (C => D) => E }", ""}, {"A => B match { case C => D }", ""}, {"(A match { case B => C }) => D", ""},
	} {
		expectLine(t, parser.Type, c[0], c[1])
	}
}

func TestLinePattern(t *testing.T) {
	for _, c := range [...][2]string{
		{"_", ""}, {"x", ""}, {"_x", ""}, {"X", ""}, {"a.b", ""}, {"x @ _", "x"}, {"X @ _", ""}, {"x @ (1 | 2)", ""}, {"x @ Y(_, z)", ""}, {"x @ y: A", ""}, {"x: A", ""}, {"_: A | B & C", ""},
		{"X: A", ""}, {"x: (A => B)", ""}, {"-1", ""}, {"-1L", ""}, {"'a'", ""}, {`"a"`, ""}, {"()", ""}, {"null", ""}, {"true", ""}, {"f(x)", ""}, {"a.B()", ""}, {"A(1 | 2, x: B | C)", ""},
		{"1 | -2 | x", ""}, {"(x: A) | B", ""}, {"(x @ y: A) | B", ""}, {"B | x: A", "B | (x: A)"}, {"x @ 1 | 2", ""}, {"(x)", "x"},
	} {
		expectLine(t, parser.Pattern, c[0], c[1])
	}
}

// TestPrintParts prints what is no unit: a line feed stands at the end of several lines only.
func TestPrintParts(t *testing.T) {
	for _, c := range [...]struct {
		read             reader
		text             string
		braces, indented string
	}{
		{parser.Expr, "a + b", "a + b", "a + b"},
		{parser.Expr, "{a}", "{\n  a\n}\n", "{\n  a\n}\n"},
		{parser.Expr, "if (a) {b} else c", "if (a) {\n  b\n} else c\n", "if (a) then\n  b\nelse c\n"},
		{parser.Expr, "if (a) b else c", "if (a) b else c", "if (a) then b else c"},
		{parser.Expr, "try a catch {case b=>c} finally d", "try a catch {\n  case b => c\n} finally d\n", "try a catch\n  case b => c\nfinally d\n"},
		{parser.Expr, "(new A {b}).+", "(new A {\n  b\n}).+\n", "(new A {\n  b\n}).+\n"},
		{parser.Expr, "x => {a;b}", "x => {\n  a\n  b\n}\n", "x =>\n  a\n  b\n"},
		{parser.Expr, "a + (x => {b})", "a + (x => {\n  b\n})\n", "a + (x => {\n  b\n})\n"},
		{parser.Expr, "s\"${ {a;b} }\"", "s\"${{ a; b }}\"", "s\"${{ a; b }}\""},
		{parser.Type, "A match {case B=>C}", "A match {\n  case B => C\n}\n", "A match\n  case B => C\n"},
		{parser.Type, "A", "A", "A"},
		{parser.Pattern, "x", "x", "x"},
		{parser.Pattern, "x: (A match {case B=>C})", "x: (A match {\n  case B => C\n})\n", "x: (A match {\n  case B => C\n})\n"},
	} {
		n, _ := c.read(c.text)
		for style, want := range [Styles]string{c.braces, c.indented} {
			if got, e := Print(n, style); e != api.OK || got != want {
				t.Errorf("%s, style %d: %v\n%s\nwant\n%s", c.text, style, e, got, want)
			}
		}
	}
}

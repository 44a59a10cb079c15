package parser

import (
	"strings"
	"testing"

	"newel/api"
	"newel/syntax"
	"newel/tokens"
)

// expectFault checks that an entry answers a fault, and nothing else.
func expectFault(t *testing.T, read entry, text string, want api.Fault) {
	t.Helper()
	n, f := read(text)
	if f != want {
		t.Errorf("%.80q: got %v, want %v", text, f, want)
	}
	if n.Kind != 0 || n.Text != "" || n.Num != 0 || len(n.Kids) != 0 || n.At != 0 {
		t.Errorf("%.80q: got a node with the fault %v", text, f)
	}
}

// expectSyntax checks texts with ErrSyntax at the token behind the `#`, which is none of the text.
func expectSyntax(t *testing.T, read entry, texts ...string) {
	t.Helper()
	for _, s := range texts {
		before, after, _ := strings.Cut(s, "#")
		at := len(before)
		if after == "" {
			// The offset of the end is that of the last token plus 1.
			at = 0
			if l, _ := tokens.Raw(before); len(l) > 0 {
				at = l[len(l)-1].At + 1
			}
		}
		expectFault(t, read, before+after, api.Fault{At: at, Code: api.ErrSyntax})
	}
}

func TestUnitFaults(t *testing.T) {
	expectSyntax(t, Parse,
		"#x", "#1", "#-x", "#{}", "#()", "#using", "#with", "#this", "#yield",
		"val x = 1 #val y", "val x = 1; #y", "val x = 1\n#y", "val x = 1; #using", "val x = 1 #,",
		"import #", "import #*", "import #val", "import #this", "import a.#", "import a.#val", "import a.#+", "import a.*#.b",
		"import a #import b", "import a; #x", "import a.b #c",
		"import a.*\n#import b", // the operator at the end of the line goes on
		"private #", "private #x", "private #import a", "private #extension (x: A) def f", "private\n#using", "private #\"def\" f",
		"private final #private val x", "inline #inline def f", "abstract #abstract class A",
		"lazy #var x", "lazy #def f", "lazy #private val x",
	)
}

func TestClassFaults(t *testing.T) {
	expectSyntax(t, Parse,
		"class #", "class #+", "class #_", "class #type", "trait #", "object #", "case class #{}",
		"case #", "case #trait A", "case #enum A {}", "case #A", "case #def f", "final case #val x",
		"class A[#]", "class A[B,#]", "class A[#_]", "class A[#*B]", "class A[+ #+B]", "class A[+#]", "class A[B]#[C]",
		"class A[B[#]]", "class A[B[#C]]", "class A[B[_,#]]", "class A[B[_]#[_]]", "class A[B <: C #>: D]", "class A[B >: #]", "class A[B#: C]",
		"class A(x#)", "class A(x: #)", "class A(x: B,#)", "class A(x: B #y: C)", "class A(#1)", "class A(#_: B)", "class A(x: #_)",
		"class A(private#)", "class A(private #private x: B)", "class A(val #val x: B)", "class A(val #var x: B)", "class A(val #private x: B)", "class A(#lazy x: B)",
		"class A(x: B*, #)", "class A(x #= 1)", "class A(x: B = #)", "class A(x: => B #*)", "class A(using x#)", "class A(using #using x: B)", "class A(x: B)#[C]",
		"class A #class B", "class A #B", "class A {} #{}", "class A {} #x", "class A {} #: B",
		"class A extends #", "class A extends #{}", "class A extends B.#+", "class A(x: B.#*)", "class A extends #1", "class A extends B #extends C", "class A extends B with #", "class A extends B, #with C", "class A #with B",
		"class A extends B(#,)", "class A extends B(x,#)", "class A extends B()#()", "class A extends B #=> C", "class A extends B #& C", "class A extends B(#using x)",
		"class A: #", "class A: #B", "class A:\n#val x", "class A { val x #val y }", "class A { #, }", "class A { val x#, y }", "class A { case #B }",
		"object A#[B]", "object A#(x: B)", "case object A#()", "trait A #class",
	)
}

func TestEnumFaults(t *testing.T) {
	expectSyntax(t, Parse,
		"enum #", "enum A#", "enum A\n#val x", "enum A extends B#", "enum A: #", "enum A: #B",
		"enum A { case #}", "enum A { case #+ }", "enum A { case B,#}", "enum A { case B, #class C }", "enum A { case #trait B }", "enum A { case class #}",
		"enum A { case B[C]#, D }", "enum A { case B(x: C)#, D }", "enum A { case B, C#(x: D) }", "enum A { case B, C #extends D }", "enum A { case B, C#[D] }",
		"enum A { case B #case C }", "enum A { case B #{} }", "enum A { private case #B }", "enum A { class B { case #C } }", "enum A { { case #B } }", "enum A { case B; #using }",
	)
}

func TestMemberFaults(t *testing.T) {
	expectSyntax(t, Parse,
		"def #", "def #_", "def #=", "def #this", "def f #g", "def f: #", "def f: #= 1", "def f = #", "def f: A #: B", "def f = #=", "def f = 1 #val x", "def f = #def g",
		"def f[A]#[B]", "def f(x: A)#[B]", "def f:\n  #A", "def f(x: A) #{}", "def f()() #g",
		"val #", "val #+", "val #_", "val x#, y", "val x#(y)", "val x#[A]", "val x: #", "val x = #", "val x: A #: B", "var #val", "lazy val #lazy", "val x = a #b",
		"type #", "type #+", "type A = #", "type A = #_", "type A =\n  #B", "type A#(x: B)", "type A #: B",
		"type A <: B #>: C", "type A >: B #= C", "type A <: B #= C", "type A = B #= C", "type A = B #<: C",
		"given #", "given A#", "given A\n#val x", "given A = #", "given A: B#", "given A: #= x", "given A[B]: #", "given A[B] #{}", "given A #* B = x", "given #+: A = x", "given #_: A = x",
		"given A(x#)", "given A(x: B) #= x", "given A(): B#", "given A[B, #1]: C = x", "given A[#_]: B = x", "given A[_] #x", "given #using",
		"extension #", "extension #x", "extension (#)", "extension [#](x: A) def f", "extension (#using x: A) def f", "extension (x: A#, y: B) def f", "extension (x: A)#(y: B) def f",
		"extension (x: A)#", "extension (x: A) #val y", "extension (x: A) private #val y", "extension (x: A)\n#def f", "extension (x: A): #def f",
		"extension (x: A) {#}", "extension (x: A) { ; #}", "extension (x: A) { def f #def g }", "extension (x: A) { #val y }", "extension (x: A) { def f; #x }",
	)
}

func TestTypeFaults(t *testing.T) {
	expectSyntax(t, Type,
		"#", "#1", "#_", "#+", "#type", "#super.A", "A #B", "A#, B", "A\n#B", "A |#", "A | #|", "A & #", "A & #_", "A | #_", "A #+", "A #: B",
		"A =>#", "A => #=>", "#=> A", "(#)", "(A#, B)", "(A #B)", "(A#, B) | C", "(A,#) => B", "(#_) => B", "(A | #) => B", "(A) #B",
		"A.#", "A.#this", "A.type#.B", "A.#+", "this#", "this #A", "this.#", "this.#this", "this.type#.A", "this#[A]", "(A)#.B",
		"A[#]", "A[B,#]", "A[B #C]", "A[_ #A]", "A[_ <: B #>: C]", "A[_ >: #]", "A[#+B]", "A[B]#.C", "A[B]#(C)", "A[B, C #= D]",
		"[#] =>> A", "[A] #=> A", "[A] =>> #", "[#_] =>> A", "[A]#", "A #=>> B",
		"A match #", "A match #A", "A match {#}", "A match { ; #}", "A match { #A => B }", "A match { case #}", "A match { case A #}", "A match { case A =>#}", "A match { case #_ => B }",
		"A match { case A => B #case C => D }", "A match { case A #if b => C }", "A match { case A #match { case B => C } => D }", "A match { case A => B; #C }",
		"A match { case A => B } #=> C", "A match { case A => B } #match { case A => B }", "A match { case A => B }#[C]", "A match { case A => B } #| C", "A match\n  case A =>\n    #B", "A match\n#case A => B",
	)
}

func TestExprFaults(t *testing.T) {
	expectSyntax(t, Expr,
		"#", "#val x", "#case", "#type", "#,", "#*a", "#.a", "#=", "#=> a", "#@", "a #b", "a\n#b", "a; #b", "a #@",
		"if #", "if a #b", "if a then#", "if (a)#", "if (a) then#", "if (#) b", "if (a#, b) c", "if (a) b else#", "if (a) then #then b", "if (a) #do b", "if (a) #&& b then c", "if a #do b", "if (a) b else c #else d", "if (a)\n#b", "if (a) b; #c",
		"while #", "while a #b", "while a #then b", "while (a)#", "while (a) do#", "while (a) #then b",
		"for #", "for () #a", "for {#} a", "for (x) #a", "for (;#) a", "for (; x#) a", "for (x) | y #a", "for (()) #(a)", "for (x #= a) b", "for (#if a) b", "for { x <- a #y <- b } c", "for { x <- #} c", "for { x <- a; 1 #} c", "for { x <- a; y #} c", "for x <- a #b", "for x <- a; do#", "for (x <- a)#", "for (x <- a) yield#", "for (x <- a)\n#b", "for { x <- a } #then b", "for (x <- a) #| b", "for (x <- a) #<- b", "for x #do a", "for (x <- a; #, ) b", "for { x <- a if #} b",
		"try #", "try a catch #", "try a catch #a", "try a catch {#}", "try a catch { #a }", "try a finally#", "try a finally b #catch { case c => d }", "try a finally b #finally c", "try a #else b", "try a; #b",
		"throw #", "throw #;", "return #*a", "return #val x", "return a #b", "return _#", "return #yield",
		"(if (a) b; #c)", "f(try a; #b)", "(if (a) b else c#; d)", "(try a catch { case b => c }; #d)", "(try a finally b#; c)", "while if (a) b; ; #then c", "if (if (a) b; else c) d; #e",
		"a => #", "_ #", "_ #+ a", "(a#, b)", "() + #", "(a, #1) => b", "(a,#) => b", "(a: A #=> B) => c", "(a #b) => c", "(a#.b) => c", "(a: #) => b", "a + b #=> c", "a.b #=> c", "1 #=> a", "(#using a) => b",
	)
}

func TestOperationFaults(t *testing.T) {
	expectSyntax(t, Expr,
		"a +#", "a + #*b", "a + #if (b) c", "a + x #=> y", "a = #", "a += #", "a + #return", "- #", "-#", "! #while (a) b", "a match #b", "a match {#}", "a match { #b }", "a match { case a => b } #+ c", "a match { case a => b }#.c", "a match { case a => b } #(c)",
		"a +: b #+ c", "a + b #+: c", "a +: b * c #- d", "a * b + c #-: d", "a :: b #:> c", "a :> b #:: c", "a - b *: c #+: d", "a < (b +: c #+ d)",
		"a.#", "a.#type", "a.#this", "a.+ #b", "a.#1", "a[#]", "a[A,#]", "a[A #B]", "a[#_]", "a[#1]", "f(#,)", "f(a,#)", "f(a #b)", "f(a#; b)", "f(using#,)", "f(#val x)", "f(a#: A)", "f(x = #)", "f(a, #using b)",
		"super #", "super#(a)", "super.#", "super[#]", "super[A #B].c", "super[A]#", "super[A#[B]].c", "super.#type", "new #", "new #1", "new A.+ #with B", "new A(using x) #with B", "new A(using x)#: B", "new A(using#;)", "new A.+ {}#: B", "new this.#+", "new this#", "new A.#", "new A.#(x)", "new A.+.#", "new A[B.#+]", "new (A.#+)", "new A.type.#type", "new A {}.#type", "new A.#this", "new A with #", "new A#, B", "new A with B with #", "new A: #", "new A: #B", "(new A: #)", "f(new A: #B)", "new A(): #B", "(new A: B #: C)",
		"(a: #)", "(a: A#, b)", "(a: A #: B)", "(a#; b)", "(#;)", "(#:A)", "{ #, }", "{ a #b }", "{ a#, b }", "{ case #a => b }", "'{ a #b }", "${ a #b }", "{ val #}",
		"s\"$#if\"", "s\"${#}\"", "s\"${a #b}\"", "s\"${a#; b}\"", "s\"a\" #b",
	)
}

func TestCaseFaults(t *testing.T) {
	expectSyntax(t, Expr,
		"a match { case #}", "a match { case a #}", "a match { case a if #=> b }", "a match { case a if b #}", "a match { case a if b#, c => d }", "a match { case a => b #c }", "a match { case a => b#, c }", "a match { case a => b; #using }", "a match { case a => ; #b }", "a match { case a => { b }; #c }", "a match { case a => { b } #c }", "a match { case a => b } #c",
		"a match {\n  case a =>\n    b\n  #c\n}", "a match\n  case a =>\n    b\n  #c", "a match { case #class B => c }", "a match { case a => case #class B }", "a match { case _ if (b) #c => d }", "a match { case _ if b => c + d #=> e }", "a match { case _ if b =>\n  c\n#=> d }",
		"try a catch case a #", "try a catch case a => b #c", "try a catch case a => { b }; #c", "(try a catch case a => b; #)", "f(try a catch case a => b; #, c)", "try a catch { case a => b } #case c => d",
	)
}

func TestPatternFaults(t *testing.T) {
	expectSyntax(t, Pattern,
		"#", "#+", "#this", "#class", "#[", "#@ a", "_ #a", "_ #@ a", "_: #", "_: #_", "_: A #=> B", "_: A #match { case B => C }", "_: A | #", "_: A | #+", "_: A | (B => #1)", "_: A | (B | 1) #& C", "_: A | (B => C | #1)", "_: A | ((B#, C))", "_: A | () #=> B", "_: A | (_) #=> B", "_: A | ([B] =>> C #=>> D)", "_: A | B & C #@ D", "_: A | B & C#(D)", "_: A | B[C]#: D", "_: A | (B)#: C", "_: A | B.type#(C)", "_: A | b.C #@ D", "_: A | B @ #", "_: A | (1 #& B)", "_: A | B(C #& D)", "_: A | B & #1", "_: A | (b: #1)", "_: A | (B) | (C => #_)", "_: A | (1) | (C #=> D)",
		"-#", "- #a", "- #-1", "- #'a'", "-#(1)", "1 #: A", "1#(a)", "1 #.a", "\"a\" #@ b", "()#()", "(#,)", "(a#, b)", "(a)#(b)", "(a #b)", "(a) #@ b", "(a)#: A",
		"a #b", "a: #", "a: A#: B", "a: A #@ b", "a @ #", "a @ #@", "a.#", "a.#type", "a.b #@ c", "a.b#: C", "a(#,)", "a(b,#)", "a(b #c)", "a(b)#(c)", "a(b)#.c", "a(b) #@ c", "a | #| b", "a | #| b", "a |#", "a#[B]", "a(b #= c)", "a(#using b)",
	)
}

func TestScanFaults(t *testing.T) {
	for _, text := range []string{
		"val x = 1 $", "class A )", "class A { ", "val x = \"a", "val x = 01", "val x = 2147483648", "\x80", "val x = '' y",
		"val x = (1\n  + 2", "  a\nb", "def f =\n    a\n  b", strings.Repeat("(", api.MaxNest), strings.Repeat("(", api.MaxNest+1),
		strings.Repeat(" ", api.MaxText+1), strings.Repeat("a;", 10001), "case " + strings.Repeat("a", api.MaxName+1), "x + x )",
	} {
		_, want := tokens.Scan(text)
		if want.Code == api.OK {
			t.Errorf("%.60q is no text with a fault", text)
		}
		for _, read := range []entry{Parse, Expr, Type, Pattern} {
			expectFault(t, read, text, want)
		}
	}
}

// TestCheckFaults is about texts that the grammar permits, but whose trees are not right.
func TestCheckFaults(t *testing.T) {
	for _, c := range []struct {
		read entry
		text string
		at   int
		code api.Errno
	}{
		{Parse, "val x; import a.b.c.d.e.f.g.h.i", 7, api.ErrName},
		{Parse, "val x; import a.b.c.d.e.f.g.h.*", 7, api.ErrName},
		{Pattern, "x @ a.b.c.d.e.f.g.h.i", 4, api.ErrName},
		{Pattern, "X(a.b.c.d.e.f.g.h.i())", 2, api.ErrName},
		{Parse, "val x; def f()()()()()", 12, api.ErrForm},
		{Expr, "a + f(x = 1, y)", 4, api.ErrForm},
		{Expr, "a(b = 1, c = 2, d => e, f)", 0, api.ErrForm},
		{Pattern, "X(y @ z)", 2, api.ErrForm},
		{Pattern, "X(a @ b @ _)", 2, api.ErrForm},
		{Pattern, "X(1 | (2 | 3))", 2, api.ErrForm},
		{Expr, "a(" + strings.Repeat("b, ", 200) + "b)", 0, api.ErrForm},
		{Expr, "{ " + strings.Repeat("b;", 201) + " }", 0, api.ErrForm},
		{Parse, ";" + strings.Repeat("val b;", 201), 0, api.ErrForm},
		{Type, "A & (B[" + strings.Repeat("A, ", 200) + "A])", 4, api.ErrForm},
		{Expr, "x" + strings.Repeat(".y", api.MaxNest), 0, api.ErrDepth},
		{Expr, " ((x" + strings.Repeat(".y", api.MaxNest) + "))", 1, api.ErrDepth},
		{Expr, " " + strings.Repeat("- ", api.MaxNest) + "x", 1, api.ErrDepth},
		{Parse, ";val x = " + strings.Repeat("- ", api.MaxNest-2) + "x", 0, api.ErrDepth},
		{Expr, "a" + strings.Repeat(" + a", api.MaxNest), 0, api.ErrDepth},
		{Pattern, strings.Repeat("a @ ", api.MaxNest) + "_", 0, api.ErrDepth},
		{Type, "A" + strings.Repeat("[A]", api.MaxNest), 0, api.ErrDepth},
	} {
		expectFault(t, c.read, c.text, api.Fault{At: c.at, Code: c.code})
	}
	for _, c := range []struct {
		read entry
		text string
	}{
		{Parse, "import a.b.c.d.e.f.g.h"}, {Parse, "def f()()()()"}, {Expr, "a(b, c = 1, d = 2)"}, {Expr, "a(" + strings.Repeat("b, ", 199) + "b)"}, {Expr, "{ " + strings.Repeat("b;", 200) + " }"},
		{Expr, "x" + strings.Repeat(".y", api.MaxNest-1)}, {Expr, strings.Repeat("- ", api.MaxNest-1) + "x"}, {Parse, "val x = " + strings.Repeat("- ", api.MaxNest-3) + "x"},
	} {
		if _, f := c.read(c.text); f.Code != api.OK {
			t.Errorf("%.60s: %v", c.text, f)
		}
	}
}

// TestDepth is about what stands inside of more than 100 others.
func TestDepth(t *testing.T) {
	for _, c := range []struct {
		read   entry
		text   string // that is repeated
		end    string
		around int // how many times it stands in front of the one in which the fault is
		at     int // where it is in this one
	}{
		{Expr, "x => ", "x", 101, 0},
		{Expr, "throw ", "x", 101, 0},
		{Expr, "return ", "x", 101, 0},
		{Expr, "try ", "x", 101, 0},
		{Expr, "if (x) ", "x", 100, 4}, // the condition is nested in one more
		{Expr, "while (x) ", "x", 100, 7},
		{Expr, "x = ", "x", 101, 0}, // the left side is no other expression
		{Expr, "- ", "x", 101, 0},
		{Expr, "x :: ", "x", 101, 0},
		{Expr, "x + x :: ", "x", 100, 4}, // an operand in the one on the left, which is nested in 100
		{Expr, "x :: - ", "x", 100, 0},   // what is behind the minus is nested in the right operand
		{Type, "A => ", "A", 101, 0},
		{Type, "[A] =>> ", "A", 101, 0},
		{Type, "[A <: B] =>> ", "A", 100, 6}, // a bound is a type
	} {
		want := api.Fault{At: c.around*len(c.text) + c.at, Code: api.ErrDepth}
		for _, times := range []int{c.around + 1, c.around + 1000} {
			expectFault(t, c.read, strings.Repeat(c.text, times)+c.end, want)
		}
		// With two less, the tree is still too deep, but the grammar goes on to the end.
		if _, f := c.read(strings.Repeat(c.text, c.around-2) + c.end); f != (api.Fault{Code: api.ErrDepth}) {
			t.Errorf("%q, %d times: %v", c.text, c.around-2, f)
		}
	}
}

// TestDepthInBrackets is about texts whose trees are not too deep. Parentheses stand inside of a text that is repeated, and `x` inside of them.
func TestDepthInBrackets(t *testing.T) {
	for _, c := range []struct {
		text, end string
		times     int
		most      int // parentheses that may stand there
	}{
		{"{", "}", 45, 10},      // a statement and an expression in each
		{"(- ", ")", 45, 10},    // what is behind the operator is one more expression
		{"(x + ", ")", 45, 10},  // and the right operand
		{"(x :: ", ")", 45, 10}, // also of an operator that associates to the right
		{"(x + - ", ")", 31, 7},
		{"(x + (x) * ", ")", 31, 7}, // a right operand in the other one
		{"{ x => (", ")}", 24, 4},
		{"(- x + ", ")", 45, 10},
		{"(-(x) + x * x + ", ")", 45, 10}, // only the last operand holds what follows
		{"{ 1; ", "}", 45, 10},
	} {
		nest := func(parens int) string {
			inner := strings.Repeat("(", parens) + "x" + strings.Repeat(")", parens)
			return strings.Repeat(c.text, c.times) + inner + strings.Repeat(c.end, c.times)
		}
		if _, f := Expr(nest(c.most)); f.Code != api.OK {
			t.Errorf("%q, %d times: %v", c.text, c.times, f)
		}
		expectFault(t, Expr, nest(c.most+1), api.Fault{At: c.times*len(c.text) + c.most + 1, Code: api.ErrDepth})
	}
	most := api.MaxNest - 1 // as layer 1 permits
	for _, read := range []entry{Expr, Type, Pattern} {
		if _, f := read(strings.Repeat("(", most) + "X" + strings.Repeat(")", most)); f.Code != api.OK {
			t.Errorf("the most parentheses: %v", f)
		}
	}
}

func TestUnitsFunction(t *testing.T) {
	texts := []string{"val x", "", "def f = g"}
	l, i, f := Units(texts)
	if len(l) != 3 || i != 0 || f != (api.Fault{}) {
		t.Fatalf("Units = %v, %v, %v", l, i, f)
	}
	for i, text := range texts {
		if n, _ := Parse(text); !syntax.Equal(l[i], n) {
			t.Errorf("unit %d is another one", i)
		}
	}
	for _, c := range []struct {
		texts []string
		index int
		fault api.Fault
	}{
		{[]string{"x"}, 0, api.Fault{At: 0, Code: api.ErrSyntax}},
		{[]string{"val x", "val x = ", "$"}, 1, api.Fault{At: 7, Code: api.ErrSyntax}},
		{[]string{"", "val x", "val x = 2147483648"}, 2, api.Fault{At: 8, Code: api.ErrRange}},
		{append(make([]string, 50), "$"), 0, api.Fault{Code: api.ErrLimit}},
		{append([]string{"$"}, make([]string, 50)...), 0, api.Fault{Code: api.ErrLimit}},
		{append(make([]string, 49), "$"), 49, api.Fault{Code: api.ErrSyntax}},
	} {
		l, i, f := Units(c.texts)
		if len(l) != 0 || i != c.index || f != c.fault {
			t.Errorf("Units(%q) = %v, %v, %v", c.texts, len(l), i, f)
		}
	}
	if l, i, f := Units(make([]string, 50)); len(l) != 50 || i != 0 || f != (api.Fault{}) {
		t.Errorf("50 units: %v, %v, %v", len(l), i, f)
	}
	if l, i, f := Units(nil); len(l) != 0 || i != 0 || f != (api.Fault{}) {
		t.Errorf("no units: %v, %v, %v", len(l), i, f)
	}
}

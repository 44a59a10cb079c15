package parser

import (
	"strconv"
	"strings"
	"testing"

	"newel/api"
	"newel/syntax"
)

// places returns the kinds of the nodes in preorder, each with its At.
func places(n syntax.Node) []string {
	l := []string{syntax.Name(n.Kind) + "@" + strconv.Itoa(n.At)}
	for _, k := range n.Kids {
		l = append(l, places(k)...)
	}
	return l
}

func TestAt(t *testing.T) {
	for _, c := range []struct {
		read       entry
		text, want string
	}{
		{Parse, " ; val x = 1", "SUnit@1 SVal@3 SMods@3 SNone@9 XInt@11"},
		{Parse, "  ", "SUnit@0"},
		{Parse, "final class A[+B[_], C](val x: D)() extends E(1) { y }", "SUnit@0 SClass@0 SMods@0 SNames@13 STParam@14 SNone@19 SNone@19 SNone@17 STParam@21 SNone@22 SNone@22 SLists@23 SParams@23 SParam@24 SMods@24 TName@31 SNone@32 SParams@33 SParents@36 SParent@44 TName@44 XInt@46 SBody@49 XName@51"},
		{Parse, "class A", "SUnit@0 SClass@0 SMods@0 SNames@7 SLists@7 SParents@7 SNone@7"},
		{Parse, "case object A extends B with C", "SUnit@0 SClass@0 SMods@0 SNames@14 SLists@14 SParents@14 SParent@22 TName@22 SParent@29 TName@29 SNone@30"},
		{Parse, "enum A:\n  case B, C\n  case D extends E", "SUnit@0 SClass@0 SMods@0 SNames@6 SLists@6 SParents@6 SBody@6 SEnumCase@15 SNames@16 SLists@16 SParents@16 SEnumCase@18 SNames@22 SLists@22 SParents@22 SEnumCase@22 SNames@29 SLists@29 SParents@29 SParent@37 TName@37"},
		{Parse, "import a.b; private def f[A]: B = c", "SUnit@0 SImport@0 SDef@12 SMods@12 SNames@25 STParam@26 SNone@27 SNone@27 SLists@28 TName@30 XName@34"},
		{Parse, "def f()(using x: => A = 1)", "SUnit@0 SDef@0 SMods@0 SNames@5 SLists@5 SParams@5 SParams@7 SParam@14 SMods@14 TName@20 XInt@24 SNone@26 SNone@26"},
		{Parse, "lazy val x: A", "SUnit@0 SVal@0 SMods@0 TName@12 SNone@13"},
		{Parse, "type A >: B", "SUnit@0 SType@0 SMods@0 SNames@7 TName@10 SNone@11 SNone@11"},
		{Parse, "type A = B", "SUnit@0 SType@0 SMods@0 SNames@7 SNone@7 SNone@7 TName@9"},
		{Parse, "given A = b; final given x(): A = b", "SUnit@0 SGiven@0 SMods@0 SNames@6 SLists@6 TName@6 XName@10 SGiven@13 SMods@13 SNames@26 SLists@26 SParams@26 TName@30 XName@34"},
		{Parse, "extension [A](x: A) { def f }", "SUnit@0 SExtension@0 SNames@10 STParam@11 SNone@12 SNone@12 SParam@14 SMods@14 TName@17 SNone@18 SDef@22 SMods@22 SNames@28 SLists@28 SNone@28 SNone@28"},
		{Type, "a.b.C[D, _ <: E] => (F)", "TFunction@0 TApply@0 TSelect@0 XSelect@0 XName@0 TName@6 TWild@9 SNone@11 TName@14 TName@20"},
		{Type, "(A, B) => this.type", "TFunction@0 TName@1 TName@4 TSingle@10 XThis@10"},
		{Type, "[A] =>> A | B & C", "TLambda@0 SNames@0 STParam@1 SNone@2 SNone@2 TOr@8 TName@8 TAnd@12 TName@12 TName@16"},
		{Type, "(A) match { case B => C }", "TMatch@0 TName@0 TCase@12 TName@17 TName@22"},
		{Expr, "(a) + b * c", "XInfix@0 XName@0 XInfix@6 XName@6 XName@10"},
		{Expr, "(a: A)", "XTyped@0 XName@1 TName@4"},
		{Expr, "- a.b(c, d = 1)[A] { e }", "XPrefix@0 XApply@2 XTypes@2 XApply@2 XSelect@2 XName@2 XName@6 XNamed@9 XInt@13 TName@16 XBlock@19 XName@21"},
		{Expr, "if (a) b", "XIf@0 XName@4 XName@7 SNone@8"},
		{Expr, "if a then b else c", "XIf@0 XName@3 XName@10 XName@17"},
		{Expr, "while (a) b", "XWhile@0 XName@7 XName@10"},
		{Expr, "try a", "XTry@0 XName@4 SCases@5 SNone@5"},
		{Expr, "try a catch { case b => c } finally d", "XTry@0 XName@4 SCases@12 SCase@14 PBind@19 PWild@21 SNone@21 XName@24 XName@36"},
		{Expr, "try a catch case b => c", "XTry@0 XName@4 SCases@12 SCase@12 PBind@17 PWild@19 SNone@19 XName@22 SNone@23"},
		{Expr, "throw return", "XThrow@0 XReturn@6 SNone@7"},
		{Expr, "x => (y: A) => 1", "XLambda@0 SLambdaParam@0 SNone@2 XLambda@5 SLambdaParam@6 TName@9 XInt@15"},
		{Expr, "for { x <- a; y = b if c } yield d", "XFor@0 SGenerator@6 PBind@6 PWild@8 XName@11 SBinding@14 PBind@14 PWild@16 XName@18 SGuard@20 XName@23 XName@33"},
		{Expr, "(a) match { case b if c => ; case d => e; f }", "XMatch@0 XName@0 SCase@12 PBind@17 PWild@19 XName@22 XBlock@27 SCase@29 PBind@34 PWild@36 SNone@36 XBlock@39 XName@39 XName@42"},
		{Expr, "a match\n  case b =>\n    c", "XMatch@0 XName@0 SCase@10 PBind@15 PWild@17 SNone@17 XBlock@24 XName@24"},
		{Expr, "(a) = b", "XAssign@0 XName@0 XName@6"},
		{Expr, "super[A].b", "XSelect@0 XSuper@0"},
		{Expr, "new A(b) with C { d }", "XNew@0 SParents@4 SParent@4 TName@4 XName@6 SParent@14 TName@14 SBody@16 XName@18"},
		{Expr, "new A", "XNew@0 SParents@4 SParent@4 TName@4 SNone@5"},
		{Expr, "'{ a } + ${ b; c }", "XInfix@0 XQuote@0 XBlock@3 XName@3 XSplice@9 XBlock@12 XName@12 XName@15"},
		{Expr, "s\"a$b${(c)}\"", "XInterp@0 XString@2 XName@4 XString@5 XName@7 XString@11"},
		{Expr, "'{; (a); b }", "XQuote@0 XBlock@4 XName@4 XName@9"},
		{Expr, "${ ; }", "XSplice@0 XBlock@5"},
		{Expr, "new (A) with B", "XNew@0 SParents@4 SParent@4 TName@4 SParent@13 TName@13 SNone@14"},
		{Expr, "a match { case b => (c); d }", "XMatch@0 XName@0 SCase@10 PBind@15 PWild@17 SNone@17 XBlock@20 XName@20 XName@25"},
		{Expr, "()", "XUnit@0"},
		{Pattern, "a @ B(c, -1) | (_: A) | ()", "PAlt@0 PBind@0 PApply@4 PBind@6 PWild@7 PLiteral@9 XPrefix@9 XInt@10 PTyped@15 TName@19 PLiteral@24 XUnit@24"},
		{Pattern, "a", "PBind@0 PWild@1"},
		{Expr, " ((a))", "XName@1"},
		{Expr, "(a + b) * c", "XInfix@0 XInfix@0 XName@1 XName@5 XName@10"},
		{Expr, "((a) + b).c", "XSelect@0 XInfix@0 XName@1 XName@7"},
		{Expr, "(a)[A](b) { (c) }", "XApply@0 XApply@0 XTypes@0 XName@0 TName@4 XName@7 XBlock@10 XName@12"},
		{Expr, "-(a) + (b)", "XInfix@0 XPrefix@0 XName@1 XName@7"},
		{Expr, "((a): (A))", "XTyped@0 XName@1 TName@6"},
		{Expr, "((a: A))", "XTyped@0 XName@2 TName@5"},
		{Expr, "(()) + ({})", "XInfix@0 XUnit@0 XBlock@7"},
		{Expr, "if (a) (b) else ((c))", "XIf@0 XName@4 XName@7 XName@16"},
		{Expr, "x => (x)", "XLambda@0 SLambdaParam@0 SNone@2 XName@5"},
		{Expr, "for ((a) <- (b)) c", "XFor@0 SGenerator@5 PBind@5 PWild@7 XName@12 XName@17"},
		{Type, "((A))", "TName@0"},
		{Type, "(A | B) & C", "TAnd@0 TOr@0 TName@1 TName@5 TName@10"},
		{Type, "(A) & B | (C)[D]", "TOr@0 TAnd@0 TName@0 TName@6 TApply@10 TName@10 TName@14"},
		{Type, "(A => B) => C", "TFunction@0 TFunction@1 TName@1 TName@6 TName@12"},
		{Type, "((A)) => B", "TFunction@0 TName@1 TName@9"},
		{Pattern, "((A))", "PStable@0"},
		{Pattern, "(1)", "PLiteral@0 XInt@1"},
		{Pattern, "(B) | (1)", "PAlt@0 PStable@0 PLiteral@6 XInt@7"},
		{Pattern, "A((1 | B))", "PApply@0 PAlt@2 PLiteral@3 XInt@3 PStable@7"},
		{Pattern, "A((b), c @ (B()))", "PApply@0 PBind@2 PWild@4 PBind@7 PApply@11"},
		{Pattern, "x : (A) | (B)", "PTyped@0 TOr@4 TName@4 TName@10"},
		{Pattern, "x : A | (1)", "PAlt@0 PTyped@0 TName@4 PLiteral@8 XInt@9"},
		{Pattern, "a.b", "PStable@0"},
	} {
		n, f := c.read(c.text)
		if got := strings.Join(places(n), " "); f.Code != api.OK || got != c.want {
			t.Errorf("%s: %v\n got %s\nwant %s", c.text, f, got, c.want)
		}
	}
}

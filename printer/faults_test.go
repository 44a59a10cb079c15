package printer

import (
	"slices"
	"strings"
	"testing"

	"newel/api"
	"newel/parser"
	"newel/syntax"
)

// expectError asks for an error of a tree in both styles, and, unless it is a unit, in a line.
func expectError(t *testing.T, name string, n syntax.Node, want api.Errno) {
	t.Helper()
	for style := range Styles {
		if got, e := Print(n, style); e != want || got != "" {
			t.Errorf("Print(%s, %d) = %q, %v, want %v", name, style, got, e, want)
		}
	}
	if n.Kind == syntax.SUnit && want != api.ErrKind {
		return
	}
	if got, e := Line(n); e != want || got != "" {
		t.Errorf("Line(%s) = %q, %v, want %v", name, got, e, want)
	}
}

// noTexts has right trees for which there is no text, with the abbreviations of form.
var noTexts = [...]string{
	`(XSuper)`, `(XSuper "A")`, `(XApply (XSuper))`, `(XTypes (XSuper) $T)`, `(XInfix "+" $x (XSuper))`, `(XSelect "a" (XSuper "if"))`,
	`(XName "+")`, `(XName "if")`, `(XName "this")`, `(XApply (XName "::") $x)`, `(XApply $x (XNamed "val" $x))`,
	`(XSelect "type" $x)`, `(XSelect "=" $x)`, `(XSelect "=>" $x)`, `(XSelect ":" $x)`, `(XSelect "//" $x)`, `(XSelect "+/*" $x)`,
	`(XInfix "max" $x $x)`, `(XInfix "match" $x $x)`, `(XInfix "=" $x $x)`, `(XInfix "<-" $x $x)`, `(XInfix "<:" $x $x)`, `(XInfix ">:" $x $x)`,
	`(XInfix "+=" $x $x)`, `(XInfix "//" $x $x)`, `(XInfix "*/*" $x $x)`, `(XAssign "//=" $x $x)`, `(XAssign "+/*=" $x $x)`,
	`(XInterp "if" (XString))`, `(XLambda (SLambdaParam "if" $-) $x)`, `(XQuote $x)`, `(XSplice $x)`, `(XQuote (XSplice (XBlock)))`,
	`(XNew (SParents (SParent (TName "new"))) $-)`, `(XTyped $x (TName "type"))`,
	`(TWild $- $-)`, `(TFunction (TWild $- $-) $T)`, `(XTypes $x (TWild $- $-))`, `(TApply (TWild $- $-) $T)`, `(TApply $T (TOr $T (TWild $- $-)))`, `(TApply $T (TWild (TWild $- $-) $-))`,
	`(TLambda $n $T)`, `(TLambda (SNames (STParam "if" $- $-)) $T)`, `(TSelect "T" (XName "+"))`, `(TSelect "T" (XSelect "+" $x))`, `(TSelect "type" $x)`, `(TSelect "T" (XName "if"))`,
	`(TSingle (XSelect "::" $x))`, `(TName "val")`, `(TMatch $T (TCase $T (TName "do")))`,
	`(PStable "x")`, `(PStable "_x")`, `(PStable "A.if")`, `(PStable "If.do")`, `(PApply "if")`, `(PApply "a.val" $P)`, `(PBind "if" (PWild))`, `(PBind "x" (PTyped "if" $T))`, `(PTyped "_" (TName "if"))`,
	`(XBlock (SClass "+" $m $n $l $p $-))`, `(XBlock (SClass "if" $m $n $l $p $-))`,
	`(XBlock (SClass "O" 2 $m (SNames (STParam "X" $- $-)) $l $p $-))`, `(XBlock (SClass "O" 4 $m $n (SLists (SParams)) $p $-))`, `(XBlock (SClass "O" 2 $m $n (SLists (SParams)) $p $-))`,
	`(XBlock (SClass "E" 5 $m $n $l $p $-))`, `(XBlock (SClass "C" $m $n $l $p (SBody (SEnumCase "A" $n $l $p))))`, `(XBlock (SEnumCase "A" $n $l $p))`,
	`(XNew (SParents (SParent $T)) (SBody (SEnumCase "A" $n $l $p)))`, `(XQuote (XBlock (SEnumCase "A" $n $l $p)))`,
	`(XBlock (SClass "E" 5 $m $n $l $p (SBody (SDef "f" $m $n $l $- (XBlock (SEnumCase "A" $n $l $p))))))`,
	`(XBlock (SClass "E" 5 $m $n $l $p (SBody (SClass "C" $m $n $l $p (SBody (SEnumCase "A" $n $l $p))))))`,
	`(XBlock (SClass "E" 5 $m $n $l $p (SBody (SEnumCase "if" $n $l $p))))`,
	`(XBlock (SDef "f" 1 $m $n $l $- $x))`, `(XBlock (SDef "=" $m $n $l $- $x))`, `(XBlock (SDef "def" $m $n $l $- $x))`, `(XBlock (SDef "<-" $m $n $l $- $-))`,
	`(XBlock (SDef "f" $m (SNames (STParam "do" $- $-)) $l $- $-))`, `(XBlock (SDef "f" $m $n (SLists (SParams (SParam "do" $m $T $-))) $- $-))`,
	`(XBlock (SGiven $m (SNames (STParam "X" $- $-)) $l $T $x))`, `(XBlock (SGiven $m $n (SLists (SParams)) $T $x))`, `(XBlock (SGiven "given" $m $n $l $T $x))`,
	`(XBlock (SVal "if" $m $- $-))`, `(XBlock (SType "type" $m $n $- $- $-))`, `(XBlock (SImport "*"))`, `(XBlock (SImport "if"))`, `(XBlock (SImport "a.if.*"))`,
}

func TestErrForm(t *testing.T) {
	for _, s := range noTexts {
		n := form(t, s)
		expectError(t, s, n, api.ErrForm)
		if n.Kind == syntax.XBlock {
			n.Kind = syntax.SUnit
			expectError(t, s, n, api.ErrForm)
		}
	}
}

// TestErrFormOfLong has the same trees in others whose texts would be too long.
func TestErrFormOfLong(t *testing.T) {
	for _, s := range noTexts {
		n := form(t, s)
		switch syntax.Name(n.Kind)[0] {
		case 'T':
			n = tree(syntax.XTypes, "", 0, leaf(syntax.XThis), n)
		case 'P':
			n = tree(syntax.XMatch, "", 0, leaf(syntax.XThis), tree(syntax.SCase, "", 0, n, none, leaf(syntax.XThis)))
		}
		expectError(t, s, tree(syntax.XBlock, "", 0, str(api.MaxText), n), api.ErrForm)
		expectError(t, s, tree(syntax.XBlock, "", 0, n, str(api.MaxText)), api.ErrForm)
	}
}

// TestNearlyErrForm has trees that resemble those for which there is no text.
func TestNearlyErrForm(t *testing.T) {
	for _, s := range []string{
		`(XSelect "a" (XSuper))`, `(XName "iff")`, `(XSelect "+=" $x)`, `(XSelect "=:=" $x)`, `(XInfix "*/" $x $x)`, `(XInfix "==" $x $x)`, `(XInfix "<=" $x $x)`, `(XAssign "/=" $x $x)`,
		`(XQuote (XBlock))`, `(TApply $T (TWild $- $-))`, `(TSelect "T" (XThis))`, `(PStable "X")`, `(PStable "x.y")`, `(PApply "x")`,
		`(XBlock (SClass "O" 2 $m $n $l $p $-))`, `(XBlock (SClass "E" 5 $m $n $l $p (SBody)))`, `(XBlock (SDef "===" $m $n $l $- $-))`, `(XBlock (SDef ":=" $m $n $l $- $x))`, `(XBlock (SImport "a.*"))`,
	} {
		checkPrinted(t, s, form(t, s))
	}
}

// TestErrFormDepth has trees that are right, but whose texts are nested too deeply for the parser.
func TestErrFormDepth(t *testing.T) {
	n := form(t, "$x")
	for range api.MaxNest - 1 {
		n = tree(syntax.XPrefix, "-", 0, n)
	}
	expectError(t, "63 prefixes", n, api.ErrForm)
	text := "val x = " + strings.Repeat("- ", 60) + "y"
	if _, f := parser.Parse(text); f.Code != api.OK {
		t.Errorf("%s: %v", text, f)
	}
	for style := range Styles {
		if s, f := Format(text, style); s != "" || f != (api.Fault{Code: api.ErrForm}) {
			t.Errorf("Format of 60 prefixes: %q, %v", s, f)
		}
	}
}

func TestErrKind(t *testing.T) {
	for _, s := range []string{
		"$-", "$m", "$n", "$l", "$p", `(SClass "C" $m $n $l $p $-)`, `(SVal "x" $m $- $-)`, `(SEnumCase "A" $n $l $p)`, "(SBody)", "(SParent $T)", "(STParam \"X\" $- $-)",
		"(TCase $T $T)", `(XNamed "a" $x)`, "(SGuard $x)", "(SCase $P $- $x)", "(SCases)", `(SLambdaParam "x" $-)`, "(SParams)", `(SImport "if")`, `(XNamed "if" (XSuper))`,
	} {
		expectError(t, s, form(t, s), api.ErrKind)
	}
	for _, kind := range []int{-1, syntax.Kinds, 1 << 40} {
		expectError(t, "unknown", leaf(kind), api.ErrKind)
	}
	for _, s := range []string{"(SUnit)", `(SUnit (SVal "x" $m $- $-))`} {
		n := form(t, s)
		if got, e := Line(n); got != "" || e != api.ErrKind {
			t.Errorf("Line(%s) = %q, %v", s, got, e)
		}
		for style := range Styles {
			if _, e := Print(n, style); e != api.OK {
				t.Errorf("Print(%s) = %v", s, e)
			}
		}
	}
}

// TestCheckErrors has trees that are not right.
func TestCheckErrors(t *testing.T) {
	deep := leaf(syntax.XUnit)
	for range api.MaxNest {
		deep = tree(syntax.XThrow, "", 0, deep)
	}
	wide := leaf(syntax.XBlock)
	for range 150 {
		wide.Kids = append(wide.Kids, tree(syntax.XBlock, "", 0, slices.Repeat([]syntax.Node{leaf(syntax.XUnit)}, 150)...))
	}
	for _, c := range []struct {
		n    syntax.Node
		want api.Errno
	}{
		{deep, api.ErrDepth},
		{wide, api.ErrLimit},
		{tree(syntax.XName, "", 0), api.ErrName},
		{tree(syntax.XName, "a b", 0), api.ErrName},
		{tree(syntax.XInt, "", -1), api.ErrRange},
		{tree(syntax.XUnit, "a", 0), api.ErrInvalid},
		{tree(syntax.XThrow, "", 0), api.ErrForm},
		{tree(syntax.SBody, "", 0, leaf(syntax.SNone)), api.ErrForm},
		{tree(syntax.SMods, "", -1), api.ErrRange},
		{tree(syntax.XThrow, "", 0, tree(syntax.XName, "1", 0)), api.ErrName},
		{tree(syntax.XPrefix, "=", 0, tree(syntax.XSuper, "", 0)), api.ErrInvalid},
		{tree(syntax.SUnit, "", 1), api.ErrInvalid},
	} {
		if c.n.Kind == syntax.SUnit {
			if _, e := Line(c.n); e != c.want {
				t.Errorf("Line of a wrong unit: %v", e)
			}
		}
		expectError(t, textOf(c.n), c.n, c.want)
	}
}

func TestErrRange(t *testing.T) {
	for _, style := range []int{-1, Styles, 7, -1 << 62, 1 << 62} {
		for _, n := range []syntax.Node{leaf(syntax.XUnit), leaf(syntax.SMods), leaf(-1), tree(syntax.XName, "", 0), leaf(syntax.XSuper)} {
			if got, e := Print(n, style); got != "" || e != api.ErrRange {
				t.Errorf("Print(%s, %d) = %q, %v", textOf(n), style, got, e)
			}
		}
		for _, text := range []string{"", "val x = 1", "val", "`"} {
			if got, f := Format(text, style); got != "" || f != (api.Fault{Code: api.ErrRange}) {
				t.Errorf("Format(%q, %d) = %q, %v", text, style, got, f)
			}
		}
	}
}

func str(size int) syntax.Node {
	return tree(syntax.XString, strings.Repeat("a", size), 0)
}

func TestErrLimit(t *testing.T) {
	const quotes = len("\"\"")
	n := str(api.MaxText - quotes)
	for style := range Styles {
		if got, e := Print(n, style); e != api.OK || len(got) != api.MaxText {
			t.Errorf("style %d: %d bytes, %v", style, len(got), e)
		}
	}
	if got, e := Line(n); e != api.OK || len(got) != api.MaxText {
		t.Errorf("%d bytes, %v", len(got), e)
	}
	expectError(t, "a string", str(api.MaxText-quotes+1), api.ErrLimit)
	expectError(t, "a string", str(api.MaxText), api.ErrLimit)
	expectError(t, "a string in parts", tree(syntax.XInfix, "+", 0, str(api.MaxText/2), str(api.MaxText/2)), api.ErrLimit)
	expectError(t, "escapes", tree(syntax.XString, strings.Repeat("\n", api.MaxText/2), 0), api.ErrLimit)
	expectError(t, "an interpolated string", tree(syntax.XInterp, "s", 0, str(api.MaxText-2)), api.ErrLimit)
	expectError(t, "no text", tree(syntax.XInfix, "+", 0, str(api.MaxText), leaf(syntax.XSuper)), api.ErrForm)
	expectError(t, "no text", tree(syntax.XInfix, "max", 0, str(api.MaxText), str(1)), api.ErrForm)
	if got, e := Line(tree(syntax.XInterp, "s", 0, str(api.MaxText-3))); e != api.OK || len(got) != api.MaxText {
		t.Errorf("an interpolated string: %d bytes, %v", len(got), e)
	}
}

// TestErrLimitOfUnits counts the line feed at the end of a unit.
func TestErrLimitOfUnits(t *testing.T) {
	const others = len("val x = \"\"\n")
	unit := func(size int) syntax.Node {
		return tree(syntax.SUnit, "", 0, tree(syntax.SVal, "x", 0, leaf(syntax.SMods), none, str(size)))
	}
	for style := range Styles {
		if got, e := Print(unit(api.MaxText-others), style); e != api.OK || len(got) != api.MaxText {
			t.Errorf("style %d: %d bytes, %v", style, len(got), e)
		}
	}
	expectError(t, "a unit", unit(api.MaxText-others+1), api.ErrLimit)
}

func TestFormatFaults(t *testing.T) {
	long := "def f = " + strings.Repeat("{", 45)
	for range 10 {
		long += "{" + strings.Repeat("a;", 200) + "};"
	}
	long += strings.Repeat("}", 45)
	if _, f := parser.Parse(long); f.Code != api.OK {
		t.Errorf("a text that becomes long: %v", f)
	}
	for _, c := range []struct {
		text string
		want api.Fault
	}{
		{"val", api.Fault{At: 1, Code: api.ErrSyntax}},
		{"val x =\n `", api.Fault{At: 9, Code: api.ErrSyntax}},
		{"x + 1", api.Fault{Code: api.ErrSyntax}},
		{"class A; def f = x match { case x @ y => 1 }", api.Fault{At: 32, Code: api.ErrForm}},
		{"val x = " + strings.Repeat("(", 60) + "1" + strings.Repeat(")", 60), api.Fault{}},
		{"val x = " + strings.Repeat("- ", 101) + "1", api.Fault{At: 210, Code: api.ErrDepth}},
		{strings.Repeat(" ", api.MaxText+1), api.Fault{Code: api.ErrLimit}},
		{long, api.Fault{Code: api.ErrLimit}},
	} {
		for style := range Styles {
			if got, f := Format(c.text, style); f != c.want || (got == "") != (f.Code != api.OK) {
				t.Errorf("Format(%.40q, %d) = %q, %v, want %v", c.text, style, got, f, c.want)
			}
		}
	}
}

package desugar

import (
	"slices"
	"strconv"
	"strings"
	"testing"

	"newel/api"
	"newel/parser"
	"newel/syntax"
)

// P5.3: Core, Fresh and Bound.

// coreForms has right trees, and whether they are core trees.
var coreForms = []struct {
	tree string
	want bool
}{
	{"(SUnit)", true}, {"$-", true}, {"$e", true}, {"$t", true}, {"$w", true}, {"$m", true}, {"$a", true}, {`(XNamed "a" $e)`, true},
	{`(SDef "f" $m $n $l $- $e)`, true}, {`(SDef "f" 1 $m $n $l $- $e)`, true}, {`(SVal "v" $m $- $-)`, true},
	{`(SUnit (SDef "f" $m $n $l $- $e) (SClass "A" $m $n $l $p (SBody (SDef "f" $m $n $l $- $e) (SType "T" $m $n $- $- $-) (SGiven $m $n $l $t $e) (SVal "v" $m $- $-) $e)))`, true},
	// Kinds.
	{`(SExtension $n $a (SDef "f" $m $n $l $- $-))`, false}, {`(SUnit (SExtension $n $a (SDef "f" $m $n $l $- $-)))`, false},
	{`(SEnumCase "A" $n $l $p)`, false}, {`(SBody (SEnumCase "A" $n $l $p))`, false},
	{`(XInfix "+" $e $e)`, false}, {`(XThrow (XInfix "+" $e $e))`, false},
	{`(XPrefix "-" $e)`, false}, {`(XPrefix "-" (XInt))`, false}, {`(XThrow (XPrefix "!" $e))`, false},
	{`(XInterp "s" (XString))`, false}, {`(XFor $g $e)`, false}, {"$g", false}, {"(SBinding $w $e)", false}, {"(SGuard $e)", false},
	{`(SClass "A" 5 $m $n $l $p $-)`, false}, {`(SClass "A" $m $n $l $p $-)`, true}, {`(SClass "A" 1 $m $n $l $p $-)`, true}, {`(SClass "A" 2 $m $n $l $p $-)`, true}, {`(SClass "A" 3 $m $n $l $p $-)`, true}, {`(SClass "A" 4 $m $n $l $p $-)`, true},
	{`(SUnit (SClass "A" $m $n $l $p (SBody (SClass "B" 5 $m $n $l $p $-))))`, false},
	// Assignments.
	{`(XAssign "=" $e $e)`, true}, {`(XAssign "=" (XSelect "a" $e) $e)`, true}, {`(XAssign "+=" $e $e)`, false},
	{`(XAssign "=" (XApply $e) $e)`, false}, {`(XAssign "=" $u $e)`, false}, {`(XAssign "=" (XTypes $e $t) $e)`, false},
	// What is left out.
	{"(XIf $e $e $e)", true}, {"(XIf $e $e $-)", false}, {"(XReturn $u)", true}, {"(XReturn $-)", false},
	{"(XTry $e (SCases) $-)", true}, {"(SCase $w $- $e)", true}, {`(XNew (SParents (SParent $t)) $-)`, true},
	// Blocks.
	{"(XBlock)", false}, {"(XBlock $e)", true}, {"(XBlock $e $e)", true}, {`(XBlock (SImport "a"))`, false}, {`(XBlock (SImport "a") $e)`, true},
	{`(XBlock (SVal "a" $m $- $e))`, false}, {`(XBlock $e (SVal "a" 2 $m $t $e) $e)`, true}, {`(XBlock (SVal "a" $m $t $-) $e)`, false},
	{`(XBlock (SDef "f" $m $n $l $- $e) $e)`, false}, {`(XBlock (SClass "A" $m $n $l $p $-) $e)`, false}, {`(XBlock (SType "T" $m $n $- $- $-) $e)`, false}, {`(XBlock (SGiven $m $n $l $t $e) $e)`, false},
	{"(XBlock (XBlock) $e)", false}, {"(XQuote (XBlock (XBlock)))", false}, {"(SBody)", true}, {"(SBody (XBlock))", false},
	// Parameters.
	{`(XLambda (SLambdaParam "a" $-) $e)`, true}, {`(XLambda (SLambdaParam "_" $-) $e)`, false}, {`(SLambdaParam "_" $t)`, false}, {`(SLambdaParam "_1" $t)`, true},
	{"(SLists (SParams) (SParams 1))", true}, {"(SLists (SParams) (SParams) (SParams 1) (SParams 1))", true}, {"(SLists (SParams 1))", true},
	{"(SLists (SParams 1) (SParams))", false}, {"(SLists (SParams) (SParams 1) (SParams) (SParams 1))", false},
	{`(SUnit (SDef "f" $m $n (SLists (SParams 1 $a) (SParams $a)) $- $e))`, false},
	// Literals in patterns.
	{`(PLiteral (XPrefix "-" (XInt)))`, true}, {`(XMatch $e (SCase (PAlt (PLiteral (XPrefix "-" (XLong))) $w) $e $e))`, true},
	{`(XMatch $e (SCase (PLiteral (XPrefix "-" (XInt))) $- (XPrefix "-" (XInt))))`, false}, {`(XMatch $e (SCase (PLiteral (XInt)) (XPrefix "!" $e) $e))`, false},
	// Other kinds have no place in it.
	{`(PTyped "_" $t)`, true}, {`(TWild $- $t)`, true}, {`(STParam "T" $- $-)`, true},
}

func TestCore(t *testing.T) {
	for _, c := range coreForms {
		if n := form(t, c.tree); Core(n) != c.want {
			t.Errorf("Core(%s) = %v", c.tree, !c.want)
		}
	}
}

// A tree that is not right is no core tree.
func TestCoreOfWrongTrees(t *testing.T) {
	for _, n := range []syntax.Node{
		{Kind: -1}, {Kind: syntax.Kinds}, node(syntax.XName, ""), node(syntax.XIf, ""), node(syntax.XReturn, ""), node(syntax.XAssign, "="), node(syntax.SVal, "a"),
		node(syntax.XBlock, "", node(syntax.SVal, "a"), node(syntax.XUnit, "")), node(syntax.XThrow, "", node(syntax.XName, "1")), node(syntax.PLiteral, "", node(syntax.XThis, "")),
		{Kind: syntax.SUnit, Num: 1}, chain(api.MaxNest + 1), wide(api.MaxNodes + 1), endless(), doubled(60),
	} {
		if Core(n) {
			t.Errorf("Core of a wrong tree of the kind %d", n.Kind)
		}
	}
	if !Core(chain(api.MaxNest)) || !Core(wide(api.MaxNodes)) {
		t.Error("Core of trees that are as large as they may be")
	}
}

func TestFresh(t *testing.T) {
	for _, c := range []struct {
		text string
		want string
	}{
		{"a", "_1 _2 _3"},
		{"_1", "_2 _3 _4"},
		{"_2", "_1 _3 _4"},
		{"f(_1, _3, _5)", "_2 _4 _6"},
		{"(_1: _2)", "_3 _4 _5"},
		{"a._1", "_2 _3 _4"},
		{"_1 => 2", "_2 _3 _4"},
		{"a match { case _1 => _2 }", "_3 _4 _5"},
		{"a match { case _1: T => b }", "_2 _3 _4"},
		{"f(_1 = a)", "_2 _3 _4"},
		{"{ val _1 = 2; val _2 = _3 }", "_4 _5 _6"},
		{`"_2"`, "_1 _3 _4"},
		{`s"_1$b"`, "_2 _3 _4"},
		{"new _2 { def _1[_4] = a }", "_3 _5 _6"},
		// These are no fresh names, but others.
		{"_01 + _0 + __1 + _1a + a_1", "_1 _2 _3"},
		{`" _1"`, "_1 _2 _3"},
		{"a match { case _1.b => c; case d._2() => e }", "_1 _2 _3"},
	} {
		names, code := Fresh(exprOf(t, c.text), 3)
		if code != api.OK || strings.Join(names, " ") != c.want {
			t.Errorf("Fresh(%q) = %q, %v; want %s", c.text, names, code, c.want)
		}
	}
}

func TestFreshCounts(t *testing.T) {
	n := node(syntax.XName, "_1000")
	for _, count := range []int{-1 << 63, -1, 1001, 1<<63 - 1} {
		if names, code := Fresh(n, count); names != nil || code != api.ErrRange {
			t.Errorf("Fresh of %d names = %d names, %v", count, len(names), code)
		}
	}
	for _, count := range []int{0, 1, 999, 1000} {
		names, code := Fresh(n, count)
		if code != api.OK || len(names) != count {
			t.Errorf("Fresh of %d names = %d names, %v", count, len(names), code)
		}
		for i, name := range names {
			if want := "_" + strconv.Itoa(i+1+i/999); name != want {
				t.Errorf("the fresh name %d is %s; want %s", i, name, want)
			}
		}
	}
}

// Fresh has an answer for any nodes.
func TestFreshOfWrongTrees(t *testing.T) {
	for name, n := range map[string]syntax.Node{
		"endless": endless(), "doubled": doubled(1000), "deep": nested(1000, node(syntax.XName, "_1")), "wide": node(-1, "", append(repeat(node(99, "a"), 30000), node(0, "_1"))...),
	} {
		if names, e := Fresh(n, 2); e != api.OK || strings.Join(names, " ") != "_2 _3" {
			t.Errorf("Fresh of a tree that is %s = %q, %v", name, names, e)
		}
	}
	if names, e := Fresh(syntax.Node{Kind: -5, Text: "_2"}, 2); e != api.OK || strings.Join(names, " ") != "_1 _3" {
		t.Errorf("Fresh of a node of an unknown kind = %q, %v", names, e)
	}
}

func TestBound(t *testing.T) {
	for _, c := range []struct{ text, want string }{
		{"x", "x"}, {"_", ""}, {"_x", "_x"}, {"1", ""}, {"-1", ""}, {"A", ""}, {"a.b", ""}, {"A()", ""}, {"x: T", "x"}, {"_: T", ""}, {"X: T", "X"},
		{"x @ _", "x"}, {"x @ A(y, z @ B(w: T), _: T, v)", "x y z w v"}, {"b | a | c", "b a c"}, {"A(x, x)", "x x"}, {"x @ (y: T)", "x y"}, {"A(c, b, a)", "c b a"},
		{"x: (T match { case y => z })", "x"}, {"x: ([y] =>> z)", "x"},
	} {
		p := parsed(t, parser.Pattern, c.text)
		if got := strings.Join(Bound(p), " "); got != c.want {
			t.Errorf("Bound(%q) = %q; want %q", c.text, got, c.want)
		}
	}
}

// Nothing else binds names: other trees, and patterns that are not right.
func TestBoundOfOthers(t *testing.T) {
	for kind, l := range newPool(t, 3).parts {
		for _, n := range l {
			if names := Bound(n); names != nil && kind != "P" {
				t.Errorf("Bound of a root %s = %q", syntax.Name(n.Kind), names)
			}
		}
	}
	x := node(syntax.PBind, "x", node(syntax.PWild, ""))
	deep := x
	for range api.MaxNest {
		deep = node(syntax.PApply, "P", deep)
	}
	for _, n := range []syntax.Node{
		{}, {Kind: -1, Text: "x"}, node(syntax.PBind, "x"), node(syntax.PBind, "x", x), node(syntax.PBind, "1", node(syntax.PWild, "")), node(syntax.PApply, "P", x, node(syntax.PTyped, "y")),
		node(syntax.SCase, "", x, node(syntax.SNone, ""), node(syntax.XThis, "")), deep, node(syntax.PApply, "P", repeat(x, 201)...), endless(),
	} {
		if names := Bound(n); names != nil {
			t.Errorf("Bound of a wrong pattern = %q", names)
		}
	}
	if names := Bound(node(syntax.PApply, "P", repeat(x, 200)...)); !slices.Equal(names, slices.Repeat([]string{"x"}, 200)) {
		t.Errorf("Bound of 200 patterns = %q", names)
	}
}

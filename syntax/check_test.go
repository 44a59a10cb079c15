package syntax

import (
	"math/rand"
	"slices"
	"strconv"
	"strings"
	"testing"

	"newel/api"
)

// P2.1: what is right.

// rightTexts has right trees of each kind.
var rightTexts = []string{
	"$-",
	"(SUnit)", `(SUnit (SImport "a") (SClass "A" $m $n $l $p $-) (SDef "f" $m $n $l $- $-) (SVal "v" $m $- $-) (SType "T" $m $n $- $- $-))`,
	`(SUnit (SGiven $m $n $l $t $e) (SExtension $n $a (SDef "f" $m $n $l $- $-)) (SEnumCase "A" $n $l $p))`,
	`(SImport "a")`, `(SImport "a.b.c")`, `(SImport "a.b.*")`, `(SImport "*")`, `(SImport "a.b.c.d.e.f.g.h")`, `(SImport "a.b.c.d.e.f.g.*")`,
	`(SClass "A" $m $n $l $p $-)`, `(SClass "A" 1 $m $n $l $p $b)`, `(SClass "::" 2 $m $n $l $p $b)`, `(SClass "A" 3 $m $n $l $p $b)`, `(SClass "A" 4 $m $n $l $p $-)`, `(SClass "A" 5 $m $n $l $p $b)`,
	`(SDef "f" $m $n $l $- $-)`, `(SDef "+" 1 $m $n $l $t $e)`, `(SDef "f" $m $n $l $- $e)`, `(SDef "f" $m $n $l $t $-)`,
	`(SVal "v" $m $- $-)`, `(SVal "v" 1 $m $t $-)`, `(SVal "v" 2 $m $t $e)`,
	`(SType "T" $m $n $- $- $-)`, `(SType "T" $m $n $t $t $-)`, `(SType "T" $m $n $- $- $t)`,
	`(SGiven $m $n $l $t $e)`, `(SGiven "g" $m $n $l $t $e)`,
	`(SExtension $n $a (SDef "f" $m $n $l $- $-))`, `(SExtension $n $a (SDef "f" $m $n $l $- $-) (SDef "g" $m $n $l $- $-))`,
	`(SEnumCase "A" $n $l $p)`,
	"(SMods)", "(SMods 1)", "(SMods 4639)", "(SMods 512)", "(SMods 4096)",
	"(SNames)", `(SNames (STParam "T" $- $-) (STParam "U" $- $-))`,
	`(STParam "T" $- $-)`, `(STParam "T" 1 $t $t)`, `(STParam "T" -1 $- $t $-)`, `(STParam "T" $- $- $- $- $-)`,
	"(SLists)", "(SLists (SParams) (SParams 1) (SParams) (SParams))",
	"(SParams)", "(SParams 1 $a $a)",
	`(SParam "a" $m $t $-)`, `(SParam "a" 1 $m $t $e)`, `(SParam "a" 2 $m $t $-)`, `(SParam "a" 4 $m $t $-)`, `(SParam "a" 5 $m $t $-)`, `(SParam "a" 6 $m $t $-)`, `(SParam "a" 8 $m $t $-)`, `(SParam "a" 9 $m $t $-)`, `(SParam "a" 10 $m $t $-)`,
	"(SParents)", "(SParents (SParent $t) (SParent $t))",
	"(SParent $t)", "(SParent 1 $t)", "(SParent 1 $t $e $e)",
	"(SBody)", `(SBody $e (SImport "a") (XBlock) (SEnumCase "A" $n $l $p))`,
	`(TName "T")`,
	`(TSelect "T" $e)`, `(TSelect "T" (XThis))`, `(TSelect "T" (XSelect "b" (XSelect "a" (XThis))))`,
	"(TApply $t $t)", "(TApply $t $t (TWild $- $t))",
	"(TFunction $t)", "(TFunction $t $t $t)",
	"(TAnd $t $t)", "(TOr $t $t)",
	"(TSingle $e)", "(TSingle (XThis))", `(TSingle (XSelect "a" $e))`,
	"(TWild $- $-)", "(TWild $t $-)", "(TWild $- $t)", "(TWild $t $t)",
	"(TLambda $n $t)",
	"(TMatch $t (TCase $t $t))", "(TMatch $t (TCase $t $t) (TCase $t $t))",
	"(TCase $t $t)",
	`(XName "x")`, `(XName "+")`, `(XName "if")`, `(XName "__")`, `(XName "_1")`,
	`(XSelect "a" $e)`, `(XSelect "!" $e)`,
	"(XApply $e)", "(XApply 1 $e $e)", `(XApply $e $e $e (XNamed "a" $e) (XNamed "b" $e))`,
	`(XNamed "a" $e)`,
	"(XTypes $e $t)", "(XTypes $e $t $t)",
	`(XInfix "+" $e $e)`, `(XInfix "max" $e $e)`,
	`(XPrefix "-" $e)`, `(XPrefix "!" $e)`, `(XPrefix "~" $e)`, `(XPrefix "+" $e)`,
	`(XAssign "=" $e $e)`, `(XAssign "+=" $e $e)`, `(XAssign "<<=" $e $e)`, `(XAssign ":=" $e $e)`,
	"(XInt)", "(XInt 2147483647)", "(XLong)", "(XLong 9223372036854775807)", "(XChar)", "(XChar 255)",
	"(XString)", `(XString "\x00\xff\n")`,
	"(XTrue)", "(XFalse)", "(XNull)", "(XUnit)", "(XThis)",
	"(XSuper)", `(XSuper "A")`,
	`(XInterp "s" $s)`, `(XInterp "s" (XString) $e $s $e $s)`,
	"(XIf $e $e $-)", "(XIf $e $e $e)",
	"(XWhile $e $e)",
	"(XFor $g $e)", "(XFor 1 $g $g (SBinding $w $e) (SGuard $e) $g $e)",
	"(SGenerator $w $e)", "(SBinding $w $e)", "(SGuard $e)",
	"(XMatch $e $c)", "(XMatch $e $c $c)",
	"(SCase $w $- $e)", "(SCase $w $e $e)",
	"(XTry $e (SCases) $-)", "(XTry $e (SCases $c) $e)",
	"(SCases)", "(SCases $c $c)",
	"(XThrow $e)",
	"(XReturn $-)", "(XReturn $e)",
	"(XLambda $e)", `(XLambda (SLambdaParam "a" $-) (SLambdaParam "_" $t) $e)`,
	`(SLambdaParam "a" $-)`, `(SLambdaParam "_" $t)`,
	"(XBlock)", `(XBlock (SVal "v" $m $- $e) $e)`,
	"(XNew (SParents (SParent $t)) $-)", "(XNew (SParents (SParent 1 $t $e) (SParent $t)) $b)",
	"(XTyped $e $t)",
	"(XQuote $e)", "(XSplice $e)",
	"(PWild)",
	`(PBind "a" $w)`, `(PBind "a" (PAlt $w (PBind "b" $w)))`,
	`(PTyped "a" $t)`, `(PTyped "_" $t)`,
	"(PLiteral (XInt 1))", "(PLiteral (XLong 1))", "(PLiteral (XChar 1))", "(PLiteral $s)", "(PLiteral (XTrue))", "(PLiteral (XFalse))", "(PLiteral (XNull))", "(PLiteral (XUnit))", `(PLiteral (XPrefix "-" (XInt 1)))`, `(PLiteral (XPrefix "-" (XLong)))`,
	`(PStable "A")`, `(PStable "a.b.c.d.e.f.g.h")`,
	`(PApply "A")`, `(PApply "a.B" $w $w)`,
	"(PAlt $w $w)", `(PAlt $w (PBind "a" (PAlt $w $w)) $w)`,
}

func TestRightTrees(t *testing.T) {
	seen := map[int]bool{}
	for _, text := range rightTexts {
		n := tree(t, text)
		if f := Check(n); f != (api.Fault{}) {
			t.Errorf("Check of %s = %v", text, f)
		}
		seen[n.Kind] = true
	}
	for kind := range Kinds {
		if !seen[kind] {
			t.Errorf("there is no right tree of the kind %d", kind)
		}
	}
}

// Kids of a kind that is unknown, or that stands nowhere else, are not permitted, wherever they stand.
func TestKidsOfWrongKinds(t *testing.T) {
	for _, text := range rightTexts {
		n := tree(t, text)
		for i := range n.Kids {
			for _, kind := range []int{-1, Kinds, 1 << 40, SUnit, SCases, SParents, TCase, STParam} {
				m := n
				m.Kids = slices.Clone(n.Kids)
				if m.Kids[i].Kind == kind {
					continue
				}
				m.Kids[i] = Node{Kind: kind}
				if f := Check(m); f != (api.Fault{Code: api.ErrForm}) {
					t.Errorf("Check of %s with a kid of the kind %d at %d = %v", text, kind, i, f)
				}
			}
		}
		m := n
		m.Kids = append(slices.Clone(n.Kids), Node{Kind: SUnit})
		if f := Check(m); f != (api.Fault{Code: api.ErrForm}) {
			t.Errorf("Check of %s with one kid more = %v", text, f)
		}
	}
}

func TestUnknownKinds(t *testing.T) {
	for _, kind := range []int{-1, Kinds, Kinds + 1, -1 << 63, 1<<63 - 1} {
		n := Node{Kind: kind, Text: "a b", Num: -7, Kids: []Node{{Kind: kind}}}
		if f := Check(n); f != (api.Fault{Code: api.ErrKind}) {
			t.Errorf("Check of a node of the kind %d = %v", kind, f)
		}
		if s, e := Text(n); s != "" || e != api.ErrKind {
			t.Errorf("Text of a node of the kind %d = %q, %v", kind, s, e)
		}
	}
}

// wrong has trees that are not right, with the index of the first node that is not, and its error.
var wrong = []struct {
	text  string
	index int
	code  api.Errno
}{
	{`(SVal "a" $m $-)`, 0, api.ErrForm},
	{"(SNone $-)", 0, api.ErrForm},
	{`(SNone "a")`, 0, api.ErrInvalid},
	{"(SNone 1)", 0, api.ErrInvalid},
	{"(SUnit $e)", 0, api.ErrForm},
	{`(SImport "")`, 0, api.ErrName},
	{`(SImport "a.*.b")`, 0, api.ErrName},
	{`(SImport "a.**")`, 0, api.ErrName},
	{`(SImport ".a")`, 0, api.ErrName},
	{`(SImport "a.")`, 0, api.ErrName},
	{`(SImport "a._")`, 0, api.ErrName},
	{`(SImport "a.b.c.d.e.f.g.h.*")`, 0, api.ErrName},
	{`(SImport "a.b.c.d.e.f.g.h.i")`, 0, api.ErrName},
	{`(SClass "A" 6 $m $n $l $p $-)`, 0, api.ErrRange},
	{`(SClass "A" -1 $m $n $l $p $-)`, 0, api.ErrRange},
	{`(SClass $m $n $l $p $-)`, 0, api.ErrName},
	{`(SClass "_" $m $n $l $p $-)`, 0, api.ErrName},
	{`(SClass "A" $n $m $l $p $-)`, 0, api.ErrForm},
	{`(SClass "A" $m $n $l $p)`, 0, api.ErrForm},
	{`(SClass "A" $m $n $l $p $b $b)`, 0, api.ErrForm},
	{`(SClass "A" $m $n $l $p $e)`, 0, api.ErrForm},
	{`(SDef "f" 2 $m $n $l $- $-)`, 0, api.ErrRange},
	{`(SDef "f" $m $n $l $e $-)`, 0, api.ErrForm},
	{`(SVal "+" $m $- $-)`, 0, api.ErrName},
	{`(SVal "v" 3 $m $- $-)`, 0, api.ErrRange},
	{`(SType "+" $m $n $- $- $-)`, 0, api.ErrName},
	{`(SType "T" $m $n $t $- $t)`, 0, api.ErrForm},
	{`(SType "T" $m $n $- $t $t)`, 0, api.ErrForm},
	{`(SType "T" 1 $m $n $- $- $-)`, 0, api.ErrInvalid},
	{`(SGiven "+" $m $n $l $t $e)`, 0, api.ErrName},
	{`(SGiven $m $n $l $- $e)`, 0, api.ErrForm},
	{`(SGiven $m $n $l $t $-)`, 0, api.ErrForm},
	{`(SExtension $n $a)`, 0, api.ErrForm},
	{`(SExtension $n $a (SDef "f" 1 $m $n $l $- $-))`, 0, api.ErrForm},
	{`(SExtension $n $a (SDef "f" $m $n $l $- $-) (SDef "f" 2 $m $n $l $- $-))`, 0, api.ErrForm},
	{`(SExtension $n $a $e)`, 0, api.ErrForm},
	{`(SEnumCase "+" $n $l $p)`, 0, api.ErrName},
	{`(SMods 32)`, 0, api.ErrRange},
	{`(SMods 4640)`, 0, api.ErrRange},
	{`(SMods -1)`, 0, api.ErrRange},
	{`(STParam "+" $- $-)`, 0, api.ErrName},
	{`(STParam "T" 2 $- $-)`, 0, api.ErrRange},
	{`(STParam "T" $- $- $t)`, 0, api.ErrForm},
	{`(STParam "T" $-)`, 0, api.ErrForm},
	{"(SLists (SParams) (SParams) (SParams) (SParams) (SParams))", 0, api.ErrForm},
	{"(SParams 2)", 0, api.ErrRange},
	{`(SParam "+" $m $t $-)`, 0, api.ErrName},
	{`(SParam "a" 3 $m $t $-)`, 0, api.ErrRange},
	{`(SParam "a" 7 $m $t $-)`, 0, api.ErrRange},
	{`(SParam "a" 11 $m $t $-)`, 0, api.ErrRange},
	{`(SParam "a" 12 $m $t $-)`, 0, api.ErrRange},
	{`(SParam "a" $m $- $-)`, 0, api.ErrForm},
	{"(SParent)", 0, api.ErrForm},
	{"(SParent 1)", 0, api.ErrForm},
	{"(SParent 1 $t $t)", 0, api.ErrForm},
	{`(SParent 1 $t (XNamed "a" $e))`, 0, api.ErrForm},
	{"(SParent 2 $t)", 0, api.ErrRange},
	{"(SParent 2 $t $e)", 0, api.ErrRange},
	{"(SParent -1 $t $e)", 0, api.ErrRange},
	// Num 0: without arguments.
	{"(SParent $t $e)", 0, api.ErrForm},
	{"(SParent $t $e $e)", 0, api.ErrForm},
	{"(SParent $t $t)", 0, api.ErrForm},
	{`(SParent $t (XName "1"))`, 0, api.ErrForm},
	{"(SParents (SParent $t $e))", 1, api.ErrForm},
	{"(SParents (SParent $t) (SParent 1 $t $e) (SParent $t $e))", 6, api.ErrForm},
	{"(XNew (SParents (SParent $t $e)) $-)", 2, api.ErrForm},
	{`(SClass "A" $m $n $l (SParents (SParent $t $e)) $-)`, 5, api.ErrForm},
	{`(SEnumCase "A" $n $l (SParents (SParent $t $e)))`, 4, api.ErrForm},
	{`(TName "+")`, 0, api.ErrName},
	{`(TSelect "+" $e)`, 0, api.ErrName},
	{`(TSelect "T" (XInt))`, 0, api.ErrForm},
	{`(TSelect "T" (XSuper))`, 0, api.ErrForm},
	{`(TSelect "T" (XSelect "a" (XSelect "b" (XApply $e))))`, 0, api.ErrForm},
	{`(TSelect "T" (XSelect "a"))`, 0, api.ErrForm},
	{`(TSelect "T" (XSelect "a" $e $e))`, 0, api.ErrForm},
	{`(TSelect "T" (XSelect $e))`, 1, api.ErrName},
	{"(TSingle $t)", 0, api.ErrForm},
	{"(TApply $t)", 0, api.ErrForm},
	{"(TFunction)", 0, api.ErrForm},
	{"(TAnd $t)", 0, api.ErrForm},
	{"(TOr $t $t $t)", 0, api.ErrForm},
	{"(TMatch $t)", 0, api.ErrForm},
	{"(TMatch $t $t)", 0, api.ErrForm},
	{"(XName)", 0, api.ErrName},
	{`(XName "1")`, 0, api.ErrName},
	{`(XName "a+")`, 0, api.ErrName},
	{`(XName "+a")`, 0, api.ErrName},
	{`(XName "_")`, 0, api.ErrName},
	{`(XName "a.b")`, 0, api.ErrName},
	{`(XName "@")`, 0, api.ErrName},
	{"(XApply)", 0, api.ErrForm},
	{`(XApply (XNamed "a" $e))`, 0, api.ErrForm},
	{`(XApply $e (XNamed "a" $e) $e)`, 0, api.ErrForm},
	{`(XApply $e $e (XNamed "a" $e) $e (XNamed "a" $e))`, 0, api.ErrForm},
	{"(XApply 2 $e)", 0, api.ErrRange},
	{`(XNamed "+" $e)`, 0, api.ErrName},
	{"(XTypes $e)", 0, api.ErrForm},
	{"(XTypes $t $t)", 0, api.ErrForm},
	{`(XInfix "+" $e)`, 0, api.ErrForm},
	{`(XPrefix "*" $e)`, 0, api.ErrInvalid},
	{"(XPrefix $e)", 0, api.ErrInvalid},
	{`(XPrefix "--" $e)`, 0, api.ErrInvalid},
	{`(XAssign "==" $e $e)`, 0, api.ErrInvalid},
	{`(XAssign "<=" $e $e)`, 0, api.ErrInvalid},
	{`(XAssign "+" $e $e)`, 0, api.ErrInvalid},
	{`(XAssign "a=" $e $e)`, 0, api.ErrInvalid},
	{"(XAssign $e $e)", 0, api.ErrInvalid},
	{"(XInt -1)", 0, api.ErrRange},
	{"(XInt 2147483648)", 0, api.ErrRange},
	{"(XLong -1)", 0, api.ErrRange},
	{"(XChar 256)", 0, api.ErrRange},
	{"(XChar -1)", 0, api.ErrRange},
	{`(XInt "1")`, 0, api.ErrInvalid},
	{"(XTrue 1)", 0, api.ErrInvalid},
	{"(XString 1)", 0, api.ErrInvalid},
	{"(XThis $e)", 0, api.ErrForm},
	{`(XSuper "+")`, 0, api.ErrName},
	{`(XInterp "s")`, 0, api.ErrForm},
	{`(XInterp "s" $e)`, 0, api.ErrForm},
	{`(XInterp "s" $s $e)`, 0, api.ErrForm},
	{`(XInterp "s" $s $s $e)`, 0, api.ErrForm},
	{`(XInterp "s" $s $e $s $e)`, 0, api.ErrForm},
	{`(XInterp $s)`, 0, api.ErrName},
	{"(XIf $e $e)", 0, api.ErrForm},
	{"(XIf $- $e $e)", 0, api.ErrForm},
	{"(XFor $e)", 0, api.ErrForm},
	{"(XFor $g)", 0, api.ErrForm},
	{"(XFor (SGuard $e) $g $e)", 0, api.ErrForm},
	{"(XFor 2 $g $e)", 0, api.ErrRange},
	{"(SGenerator $e $e)", 0, api.ErrForm},
	{"(XMatch $e)", 0, api.ErrForm},
	{"(SCase $w $w $e)", 0, api.ErrForm},
	{"(XTry $e $- $-)", 0, api.ErrForm},
	{"(XReturn)", 0, api.ErrForm},
	{`(XLambda $e (SLambdaParam "a" $-))`, 0, api.ErrForm},
	{"(XLambda)", 0, api.ErrForm},
	{`(SLambdaParam "+" $-)`, 0, api.ErrName},
	{`(SLambdaParam $-)`, 0, api.ErrName},
	{"(XBlock $t)", 0, api.ErrForm},
	{"(XBlock $-)", 0, api.ErrForm},
	{"(XNew $p $-)", 0, api.ErrForm},
	{"(XNew (SParents (SParent $t)))", 0, api.ErrForm},
	{`(PBind "a" (PBind "b" $w))`, 0, api.ErrForm},
	{`(PBind "_" $w)`, 0, api.ErrName},
	{`(PTyped "+" $t)`, 0, api.ErrName},
	{"(PLiteral (XThis))", 0, api.ErrForm},
	{"(PLiteral $e)", 0, api.ErrForm},
	{`(PLiteral (XPrefix "+" (XInt 1)))`, 0, api.ErrForm},
	{`(PLiteral (XPrefix "-" (XChar 1)))`, 0, api.ErrForm},
	{`(PLiteral (XPrefix "-"))`, 0, api.ErrForm},
	{`(PLiteral (XPrefix "-" (XInt 1) (XInt 1)))`, 0, api.ErrForm},
	{`(PLiteral (XPrefix "-" (XInt -1)))`, 2, api.ErrRange},
	{`(PStable "a.*")`, 0, api.ErrName},
	{`(PStable "+")`, 0, api.ErrName},
	{"(PApply $w)", 0, api.ErrName},
	{"(PAlt $w)", 0, api.ErrForm},
	{"(PAlt $w (PAlt $w $w))", 0, api.ErrForm},

	// The first node in preorder counts.
	{`(XInfix "+" (XInt -1) (XName "1"))`, 1, api.ErrRange},
	{`(XInfix "+" (XThrow (XNew $p $-)) (XName "1"))`, 2, api.ErrForm},
	{`(XInfix "+" (XThrow $e) (XName "1"))`, 3, api.ErrName},
	{`(XIf $e (XBlock (SVal "a" 7 $m $- $-)) (XUnit 1))`, 3, api.ErrRange},
	{`(XIf (XThrow) $e $t)`, 0, api.ErrForm},
}

func TestWrongTrees(t *testing.T) {
	for _, c := range wrong {
		if strings.Contains(c.text, `""`) { // no text form: the Text is empty
			c.text = strings.Replace(c.text, ` ""`, "", 1)
		}
		n, starts := formOf(t, c.text+"\n")
		want := api.Fault{At: c.index, Code: c.code}
		if f := Check(n); f != want {
			t.Errorf("Check of %s = %v; want %v", c.text, f, want)
		}
		if s, e := Text(n); s != "" || e != c.code {
			t.Errorf("Text of %s = %q, %v", c.text, s, e)
		}
		expectRead(t, short.Replace(c.text), api.Fault{At: starts[c.index], Code: c.code})
	}
}

// expectRead checks that Read of a text has this fault and nothing else.
func expectRead(t *testing.T, text string, want api.Fault) {
	t.Helper()
	n, f := Read(text)
	if f != want || n.Kind != 0 || n.Text != "" || n.Num != 0 || n.Kids != nil || n.At != 0 {
		t.Errorf("Read(%.200q) = a node of the kind %d, %v; want %v", text, n.Kind, f, want)
	}
}

// Any number of kids is at most 200, besides those that must be there.
func TestNumbersOfKids(t *testing.T) {
	for _, c := range []struct {
		before, many, behind string
		least, most          int
	}{
		{"(SUnit", ` (SImport "a")`, ")", 0, 200},
		{`(SExtension $n $a`, ` (SDef "f" $m $n $l $- $-)`, ")", 1, 200},
		{"(SNames", ` (STParam "T" $- $-)`, ")", 0, 200},
		{`(STParam "T" $- $-`, " $-", ")", 0, 200},
		{"(SLists", " (SParams)", ")", 0, 4},
		{"(SParams", " $a", ")", 0, 200},
		{"(SParents", " (SParent $t)", ")", 0, 200},
		{"(SParent 1 $t", " $e", ")", 0, 200},
		{"(SBody", " $e", ")", 0, 200},
		{"(TApply $t", " $t", ")", 1, 200},
		{"(TFunction", " $t", " $t)", 0, 200},
		{"(TMatch $t", " (TCase $t $t)", ")", 1, 200},
		{"(XApply $e", " $e", ")", 0, 200},
		{"(XTypes $e", " $t", ")", 1, 200},
		{`(XInterp "s" $s`, " $e $s", ")", 0, 200},
		{"(XFor $g", " $g", " $e)", 0, 200},
		{"(XMatch $e", " $c", ")", 1, 200},
		{"(SCases", " $c", ")", 0, 200},
		{"(XLambda", ` (SLambdaParam "a" $-)`, " $e)", 0, 200},
		{"(XBlock", " $e", ")", 0, 200},
		{`(PApply "A"`, " $w", ")", 0, 200},
		{"(PAlt $w", " $w", ")", 1, 200},
	} {
		for _, count := range []int{0, 1, 2, 3, 4, 5, 199, 200, 201, 400} {
			want := api.Fault{}
			if count < c.least || count > c.most {
				want.Code = api.ErrForm
			}
			if f := Check(tree(t, c.before+strings.Repeat(c.many, count)+c.behind)); f != want {
				t.Errorf("Check of %s%s%s with %d of them = %v; want %v", c.before, c.many, c.behind, count, f, want)
			}
		}
	}
}

func TestLongTexts(t *testing.T) {
	long := strings.Repeat("a", api.MaxName)
	path := strings.Repeat(long+".", maxPath-1) + long
	for _, c := range []struct {
		kind       int
		text, more string
		code       api.Errno
	}{
		{XName, long, long + "a", api.ErrName},
		{XName, strings.Repeat("+", api.MaxName), strings.Repeat("+", api.MaxName+1), api.ErrName},
		{PStable, path, path + "a", api.ErrName},
		{PStable, path, strings.Repeat("a.", 1<<16) + "a", api.ErrName},
		{PApply, "a." + long + ".a", "a." + long + "a.a", api.ErrName},
		{SImport, strings.Repeat(long+".", maxPath-1) + "*", path + ".*", api.ErrName},
		{XString, strings.Repeat("\x00", api.MaxText), strings.Repeat("\x00", api.MaxText+1), api.ErrForm},
	} {
		if f := Check(Node{Kind: c.kind, Text: c.text}); f != (api.Fault{}) {
			t.Errorf("Check of %s with a Text of %d bytes = %v", Name(c.kind), len(c.text), f)
		}
		if f := Check(Node{Kind: c.kind, Text: c.more}); f != (api.Fault{Code: c.code}) {
			t.Errorf("Check of %s with a Text of %d bytes = %v", Name(c.kind), len(c.more), f)
		}
	}
	right := Node{Kind: XAssign, Text: strings.Repeat("+", api.MaxName-1) + "=", Kids: []Node{{Kind: XUnit}, {Kind: XUnit}}}
	if f := Check(right); f != (api.Fault{}) {
		t.Errorf("Check of a long operator = %v", f)
	}
	right.Text = "+" + right.Text
	if f := Check(right); f != (api.Fault{Code: api.ErrInvalid}) {
		t.Errorf("Check of an operator that is too long = %v", f)
	}
}

// Each byte stands in names of letters, in operators, or in neither.
func TestBytesOfNames(t *testing.T) {
	const letters = "abcdefghijklmnopqrstuvwxyzABCDEFGHIJKLMNOPQRSTUVWXYZ_"
	const digits, operators = "0123456789", "+-*/%<>=!&|^~:?"
	for i := range 256 {
		b := string([]byte{byte(i)})
		letter, digit, operator := strings.Contains(letters, b), strings.Contains(digits, b), strings.Contains(operators, b)
		for _, c := range []struct {
			text string
			want bool
		}{
			{b + "a", letter}, {"a" + b, letter || digit}, {"a" + b + "a", letter || digit}, {b, letter && b != "_" || operator}, {"+" + b, operator}, {b + "+", operator},
		} {
			f := Check(Node{Kind: XName, Text: c.text})
			if (f == api.Fault{}) != c.want || !c.want && f.Code != api.ErrName {
				t.Errorf("Check of XName %q = %v", c.text, f)
			}
		}
	}
}

func TestNesting(t *testing.T) {
	for size, want := range map[int]api.Errno{1: api.OK, api.MaxNest - 1: api.OK, api.MaxNest: api.OK, api.MaxNest + 1: api.ErrDepth, 1 << 16: api.ErrDepth} {
		if f := Check(chain(size)); f != (api.Fault{Code: want}) {
			t.Errorf("Check of %d levels = %v; want %v", size, f, want)
		}
		if s, e := Text(chain(size)); e != want || want != api.OK && s != "" {
			t.Errorf("Text of %d levels: %v; want %v", size, e, want)
		}
	}
	// It counts more than anything else, wherever it is.
	for _, n := range []Node{
		{Kind: Kinds, Kids: []Node{chain(api.MaxNest)}},
		{Kind: XBlock, Kids: append(wide(2*api.MaxNodes).Kids, chain(api.MaxNest))},
		{Kind: XBlock, Kids: append([]Node{chain(api.MaxNest)}, wide(2*api.MaxNodes).Kids...)},
	} {
		if f := Check(n); f != (api.Fault{Code: api.ErrDepth}) {
			t.Errorf("Check of what is nested too deeply, and more = %v", f)
		}
	}
}

func TestNumberOfNodes(t *testing.T) {
	for size, want := range map[int]api.Errno{api.MaxNodes - 1: api.OK, api.MaxNodes: api.OK, api.MaxNodes + 1: api.ErrLimit, 2 * api.MaxNodes: api.ErrLimit} {
		if f := Check(wide(size)); f != (api.Fault{Code: want}) {
			t.Errorf("Check of %d nodes = %v; want %v", size, f, want)
		}
	}
	n := wide(api.MaxNodes + 1)
	n.Kind = Kinds
	if f := Check(n); f != (api.Fault{Code: api.ErrLimit}) {
		t.Errorf("Check of too many nodes, and an unknown kind = %v", f)
	}
	n = wide(api.MaxNodes)
	n.Kids[len(n.Kids)-1].Kids[0].Text = ""
	want := api.Fault{At: api.MaxNodes - len(n.Kids[len(n.Kids)-1].Kids), Code: api.ErrName}
	if f := Check(n); f != want {
		t.Errorf("Check with one of the last nodes wrong = %v; want %v", f, want)
	}
}

// What is made at random is right; a change is told by Check, by Text and by Read alike.
func TestChangedTrees(t *testing.T) {
	m := maker{rand.New(rand.NewSource(1))}
	wrong := map[api.Errno]int{}
	for range 20000 {
		n := m.right(4)
		if f := Check(n); f != (api.Fault{}) {
			t.Fatalf("Check of %s = %v", written(n), f)
		}
		n = m.changed(n)
		f := Check(n)
		wrong[f.Code]++
		if s, e := Text(n); e != f.Code || (e == api.OK) != (s != "") {
			t.Fatalf("Text of %s = %q, %v; Check has %v", written(n), s, e, f)
		}
		if f.At < 0 || f.At >= Size(n) || f.Code == api.OK && f.At != 0 {
			t.Fatalf("Check of %s = %v", written(n), f)
		}
		text := written(n)
		if f.Code != api.OK {
			expectRead(t, text, api.Fault{At: startsOf(text)[f.At], Code: f.Code})
		} else if again, g := Read(text); g != (api.Fault{}) || !Equal(again, n) {
			t.Fatalf("Read of %s: %v", text, g)
		}
	}
	for _, code := range []api.Errno{api.OK, api.ErrName, api.ErrRange, api.ErrInvalid, api.ErrForm} {
		if wrong[code] < 100 {
			t.Errorf("%s: only %d trees", strconv.Itoa(int(code)), wrong[code])
		}
	}
}

func TestCheckOfEndlessTrees(t *testing.T) {
	if f := Check(endless()); f != (api.Fault{Code: api.ErrDepth}) {
		t.Errorf("Check of an endless tree = %v", f)
	}
	if f := Check(doubled(50)); f != (api.Fault{Code: api.ErrLimit}) {
		t.Errorf("Check of a doubled tree = %v", f)
	}
	if f := Check(doubled(api.MaxNest)); f != (api.Fault{Code: api.ErrDepth}) {
		t.Errorf("Check of a deep doubled tree = %v", f)
	}
}

// endless returns a tree whose kids lie in their own kids.
func endless() Node {
	kids := []Node{{Kind: XName, Text: "x"}, {Kind: XBlock}}
	kids[1].Kids = kids
	return kids[1]
}

// doubled returns a tree with that many levels of nodes that have the same kids twice, and a leaf.
func doubled(levels int) Node {
	n := Node{Kind: XName, Text: "x"}
	for range levels {
		n = Node{Kind: XBlock, Kids: []Node{n, n}}
	}
	return n
}

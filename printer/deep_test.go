package printer

import (
	"strings"
	"testing"

	"newel/api"
	"newel/parser"
	"newel/syntax"
)

// form reads a tree whose parts are abbreviated: $- is nothing, $m SMods, $n SNames, $l SLists, $p SParents, $x a name, $T a type, $P a pattern, and $$ stays.
func form(t *testing.T, s string) syntax.Node {
	t.Helper()
	s = strings.NewReplacer("$-", "(SNone)", "$m", "(SMods)", "$n", "(SNames)", "$l", "(SLists)", "$p", "(SParents)",
		"$x", `(XName "x")`, "$T", `(TName "U")`, "$P", `(PBind "p" (PWild))`).Replace(s)
	n, f := syntax.Read(s)
	if f.Code != api.OK {
		t.Fatalf("%s: %v", s, f)
	}
	return n
}

// Trees with a hole: a name E, T or P for an expression, a type or a pattern. One is put into the hole of another one, if the root fits.
var frames = [...]string{
	`(XSelect "y" E)`, `(XSelect "+" E)`, `(XApply E)`, `(XApply E $x)`, `(XApply E (XBlock))`, `(XApply $x E)`, `(XApply 1 $x E $x)`, `(XApply $x (XNamed "y" E))`,
	`(XTypes E $T)`, `(XInfix "+" E $x)`, `(XInfix "+" $x E)`, `(XInfix "::" E $x)`, `(XInfix "::" $x E)`, `(XInfix "+:" E $x)`, `(XInfix "*" $x E)`,
	`(XPrefix "-" E)`, `(XPrefix "!" E)`, `(XAssign "=" E $x)`, `(XAssign "=" $x E)`, `(XAssign "+=" E $x)`, `(XAssign "+=" $x E)`,
	`(XInterp "s" (XString) E (XString "a"))`, `(XIf E $x $x)`, `(XIf $x E $-)`, `(XIf $x E $x)`, `(XIf $x $x E)`, `(XWhile E $x)`, `(XWhile $x E)`,
	`(XFor (SGenerator $P E) $x)`, `(XFor 1 (SGenerator $P $x) (SBinding $P E) $x)`, `(XFor (SGenerator $P $x) (SGuard E) $x)`, `(XFor 1 (SGenerator $P $x) E)`,
	`(XMatch E (SCase $P $- $x))`, `(XMatch $x (SCase $P E $x))`, `(XMatch $x (SCase $P $- E))`, `(XMatch $x (SCase $P $- E) (SCase $P $- $x))`,
	`(XTry E (SCases) $-)`, `(XTry E (SCases (SCase $P $- $x)) $-)`, `(XTry E (SCases) $x)`, `(XTry $x (SCases) E)`, `(XTry $x (SCases (SCase $P $- E)) $-)`,
	`(XTry $x (SCases (SCase $P $- E)) $x)`, `(XThrow E)`, `(XReturn E)`, `(XLambda E)`, `(XLambda (SLambdaParam "y" $-) E)`,
	`(XBlock E)`, `(XBlock E $x)`, `(XBlock $x E)`, `(XQuote (XBlock E))`, `(XSplice (XBlock $x E $x))`, `(XTyped E $T)`,
	`(XNew (SParents (SParent 1 $T E)) $-)`, `(XNew (SParents (SParent $T)) (SBody E))`, `(XNew (SParents (SParent $T)) (SBody E $x))`,
	`(XBlock (SDef "d" $m $n $l $- E))`, `(XBlock (SDef "+" $m $n $l $- E) (SDef "-" $m $n $l $- $-))`, `(XBlock (SVal "d" $m $- E))`, `(XBlock (SGiven $m $n $l $T E) $x)`,
	`(XBlock (SExtension $n (SParam "y" $m $T $-) (SDef "d" $m $n $l $- E)))`, `(XBlock (SClass "C" $m $n $l $p (SBody E)))`, `(XBlock (SClass "C" $m $n $l $p (SBody E)) $x)`,
	`(XBlock (SClass "C" 5 $m $n $l $p (SBody E (SEnumCase "D" $n $l $p))))`, `(XBlock (SClass "C" $m $n $l (SParents (SParent 1 $T E)) $-) $x)`,
	`(XBlock (SClass "C" $m $n (SLists (SParams (SParam "y" $m $T E))) $p $-))`,
	`(TApply T $T)`, `(TApply $T T)`, `(TApply $T (TWild T $-))`, `(TApply $T (TWild $- T))`, `(TFunction T)`, `(TFunction T $T)`, `(TFunction $T T)`, `(TFunction T $T $T)`,
	`(TAnd T $T)`, `(TAnd $T T)`, `(TOr T $T)`, `(TOr $T T)`, `(TLambda (SNames (STParam "X" $- T)) $T)`, `(TLambda (SNames (STParam "X" $- $-)) T)`,
	`(TMatch T (TCase $T $T))`, `(TMatch $T (TCase T $T) (TCase $T $T))`, `(TMatch $T (TCase $T T) (TCase $T $T))`,
	`(XTyped $x T)`, `(XTypes $x T)`, `(XLambda (SLambdaParam "y" T) $x)`, `(XNew (SParents (SParent T)) $-)`, `(XBlock (SDef "d" $m $n $l T $-) $x)`,
	`(XBlock (SType "D" $m $n $- $- T) $x)`, `(XBlock (SType "D" $m $n $T T $-))`, `(XBlock (SType "D" $m $n T $- $-) $x)`, `(XBlock (SGiven $m $n $l T $x))`, `(XMatch $x (SCase (PTyped "y" T) $- $x))`,
	`(PBind "y" P)`, `(PApply "Y" P)`, `(PApply "Y" $P P)`, `(PAlt P $P)`, `(PAlt $P P)`, `(PTyped "y" T)`, `(XMatch $x (SCase P $- $x))`, `(XFor (SGenerator P $x) $x)`,
}

// hole returns the class of the hole of a frame.
func hole(frame string) byte {
	for _, c := range "ETP" {
		for _, behind := range " )" {
			if strings.Contains(frame, " "+string(c)+string(behind)) {
				return byte(c)
			}
		}
	}
	return 0
}

// class returns the class of the root of a frame.
func class(frame string) byte {
	if frame[1] == 'X' {
		return 'E'
	}
	return frame[1]
}

// fill puts a tree into each hole.
func fill(n, part syntax.Node, hole string) syntax.Node {
	if n.Text == hole && (n.Kind == syntax.XName || n.Kind == syntax.TName || n.Kind == syntax.PStable) {
		return part
	}
	kids := make([]syntax.Node, len(n.Kids))
	for i, k := range n.Kids {
		kids[i] = fill(k, part, hole)
	}
	n.Kids = kids
	return n
}

// frameTree reads a frame.
func frameTree(t *testing.T, frame string) syntax.Node {
	h := string(hole(frame))
	for _, behind := range " )" {
		kind := map[string]string{"E": "XName", "T": "TName", "P": "PStable"}[h]
		frame = strings.ReplaceAll(frame, " "+h+string(behind), ` (`+kind+` "`+h+`")`+string(behind))
	}
	return form(t, frame)
}

// chain puts a tree into frames in turn, the last one outside, as long as the result is not deeper than most.
func chain(n syntax.Node, most int, trees ...syntax.Node) syntax.Node {
	for k := 0; ; k++ {
		next := fill(trees[k%len(trees)], n, map[byte]string{'X': "E", 'T': "T", 'P': "P"}[syntax.Name(n.Kind)[0]])
		if syntax.Depth(next) > most {
			return n
		}
		n = next
	}
}

// core returns the tree for the innermost hole of a frame.
func core(t *testing.T, frame string) syntax.Node {
	return form(t, map[byte]string{'E': `(XName "x")`, 'T': `(TName "U")`, 'P': `(PWild)`}[hole(frame)])
}

func readFrames(t *testing.T) []syntax.Node {
	trees := make([]syntax.Node, len(frames))
	for i, f := range frames {
		trees[i] = frameTree(t, f)
	}
	return trees
}

const depth = 30 // to which trees of short texts are printed without an error

// TestDeep prints trees in which two frames alternate, nested as deeply as the document promises.
func TestDeep(t *testing.T) {
	trees := readFrames(t)
	for i, a := range frames {
		for j, b := range frames {
			if hole(a) != class(b) || hole(b) != class(a) {
				continue
			}
			n := chain(core(t, b), depth, trees[j], trees[i])
			if syntax.Depth(n) < depth-9 {
				t.Fatalf("%s %s: only %d deep", a, b, syntax.Depth(n))
			}
			checkPrinted(t, a+" "+b, n)
		}
	}
}

// TestDeepMixed prints trees in which one frame is in a frame of another class, and this in a third one.
func TestDeepMixed(t *testing.T) {
	trees := readFrames(t)
	var around []int // frames for expressions in expressions
	for i, f := range frames {
		if hole(f) == 'E' && class(f) == 'E' {
			around = append(around, i)
		}
	}
	for i, mixed := range frames {
		if hole(mixed) == class(mixed) {
			continue
		}
		for j, b := range frames {
			if hole(b) != class(b) || class(b) != hole(mixed) {
				continue
			}
			for _, inner := range []int{5, 15, 22} {
				n := fill(trees[i], chain(core(t, b), inner, trees[j]), string(hole(mixed)))
				if class(mixed) == 'E' {
					n = chain(n, depth, trees[around[(i*len(frames)+j+inner)%len(around)]])
				}
				checkPrinted(t, mixed+" "+b, n)
			}
		}
	}
}

// checkPrinted prints a tree in every way, if it is right.
func checkPrinted(t *testing.T, name string, n syntax.Node) {
	t.Helper()
	if syntax.Check(n).Code != api.OK { // a PBind of a PBind
		return
	}
	var texts [3]string
	var errs [3]api.Errno
	texts[0], errs[0] = Print(n, Braces)
	texts[1], errs[1] = Print(n, Indented)
	texts[2], errs[2] = Line(n)
	for i, text := range texts {
		back, f := readerOf(n.Kind)(text)
		if errs[i] != api.OK || f.Code != api.OK || !syntax.Equal(back, n) {
			t.Fatalf("%s: way %d: %v, %v\n%s\n%s", name, i, errs[i], f, text, textOf(n))
		}
	}
}

// TestLong prints trees of short texts that become long, as each statement has a line of its own.
func TestLong(t *testing.T) {
	for inner := range 29 {
		outer := 27 - inner
		one := strings.Repeat("{", inner) + "a" + strings.Repeat("}", inner) + ";"
		for _, head := range []string{"", "class A", "def a="} {
			if len(head) > 0 && outer < 4 || outer < 1 {
				continue
			}
			open := "def a=" + strings.Repeat("{", outer)
			if head != "" {
				open = strings.Repeat("{", outer-2)
				open = "def a=" + open + head + "{"
			}
			last := strings.Repeat("}", strings.Count(open, "{"))
			times := min(200, (1500-len(open)-len(last))/len(one))
			text := open + strings.Repeat(one, times) + last
			n, f := parser.Parse(text)
			if f.Code != api.OK || len(text) > 1500 || syntax.Depth(n) > 30 {
				t.Fatalf("%s: %v", text, f)
			}
			for style := range Styles {
				if s, g := Format(text, style); g.Code != api.OK || len(s) > api.MaxText {
					t.Errorf("inner %d, %q, style %d: %v", inner, head, style, g)
				}
			}
		}
	}
}

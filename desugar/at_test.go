package desugar

import (
	"slices"
	"strconv"
	"strings"
	"testing"

	"newel/api"
	"newel/syntax"
)

// Nodes that are made have the At of the node that is replaced, others keep theirs.

// places returns the offsets of a tree in preorder.
func places(n syntax.Node) string {
	var out []string
	for m := range nodes(n) {
		out = append(out, strconv.Itoa(m.At))
	}
	return strings.Join(out, " ")
}

func TestPlaces(t *testing.T) {
	for _, c := range []struct{ tree, want string }{
		// The nodes of each tree are numbered from 0 on, in preorder.
		{`(XInfix "+" $e $e)`, "0 0 1 2"},
		{`(XInfix "&&" $e $e)`, "0 1 2 0"},
		{`(XInfix "||" $e $e)`, "0 1 0 2"},
		{`(XInfix "!=" $e $e)`, "0 0 0 1 2"},
		{`(XInfix "::" $e $e)`, "0 0 0 0 1 0 0 2 0"},
		{`(XInfix "+" $e (XPrefix "-" (XInt)))`, "0 0 1 2 3"},
		{`(XAssign "+=" $e $u)`, "0 1 0 0 1 2"},
		{`(XAssign "=" $e $u)`, "0 1 2"},
		{`(XAssign "=" (XApply (XThis) $e $u) $u)`, "0 0 2 3 4 5"},
		{`(XAssign "+=" (XApply (XThis) $e) $u)`, "0 0 2 3 0 0 1 2 3 4"},
		{`(XInterp "s" (XString) $e (XString "a"))`, "0 0 0 0 1 2 3"},
		{`(XInterp "s" (XString))`, "1"},
		{`(XThrow (XIf $e $u $-))`, "0 1 2 3 1"},
		{`(XThrow (XReturn $-))`, "0 1 1"},
		{`(XThrow (XBlock (SVal "a" $m $- $e)))`, "0 1 2 3 4 5 1"},
		{`(XThrow (XBlock))`, "0 1 1"},
		{`(XLambda (SLambdaParam "_" $t) $e)`, "0 1 2 3"},
		{`(XFor 1 (SGenerator (PBind "a" $w) $e) $u)`, "0 0 4 0 0 0 5"},
		{`(XFor (SGenerator (PTyped "a" $t) $e) $u)`, "0 0 4 0 0 3 5"},
		{`(XFor (SGenerator $w $e) $u)`, "0 0 3 0 0 0 0 0 0 2 0 4"},
		{`(XFor 1 (SGenerator (PBind "a" $w) $e) (SGuard (XThis)) $u)`, "0 0 0 0 4 0 0 0 6 0 0 0 7"},
		{`(XFor 1 (SGenerator (PBind "a" $w) $e) (SBinding $w (XThis)) $u)`, "0 0 4 0 0 0 0 7 0 6 0 8"},
		{`(XMatch $e (SCase (PLiteral (XPrefix "-" (XInt))) $- $u))`, "0 1 2 3 4 5 6 7"},
		{`(XTry $e (SCases) $-)`, "0 1 2 3"},
	} {
		n, f := Expr(counted(form(t, c.tree)))
		if got := places(n); f != (api.Fault{}) || got != c.want {
			t.Errorf("Expr(%s): %v, %s at %s; want %s", c.tree, f, written(n), got, c.want)
		}
	}
}

func TestPlacesOfDefinitions(t *testing.T) {
	for _, c := range []struct{ tree, want string }{
		// The methods of an extension are where they were; the list with the parameter is made.
		{`(SUnit (SExtension (SNames (STParam "T" $- $-)) $a (SDef "f" $m $n $l $- $e)))`, "0 10 11 12 3 4 5 13 1 6 7 8 9 14 15"},
		// The class of an enum stands in its place, those of its cases in the places of these.
		{`(SUnit (SClass "E" 5 $m $n $l $p (SBody (SEnumCase "A" $n $l $p))))`, "0 1 2 3 4 5 1 7 7 7 9 7 7 7 7"},
		{`(SUnit (SClass "E" 5 $m $n $l $p (SBody $e (SEnumCase "A" $n (SLists (SParams)) (SParents (SParent $t))))))`, "0 1 2 3 4 5 6 7 8 8 9 10 11 12 13 14 8"},
		{`(SUnit (SClass "E" 5 $m (SNames (STParam "T" 1 $- $-)) $l $p (SBody (SEnumCase "A" $n (SLists (SParams)) $p))))`, "0 1 2 3 4 5 6 7 8 1 10 10 3 4 5 6 12 13 10 10 10 10 10 10"},
	} {
		n, f := Unit(counted(form(t, c.tree)))
		if got := places(n); f != (api.Fault{}) || got != c.want {
			t.Errorf("Unit(%s): %v, %s at %s; want %s", c.tree, f, written(n), got, c.want)
		}
	}
}

// roomy returns a tree whose lists of kids have room behind their ends, in which other nodes are.
func roomy(n syntax.Node) syntax.Node {
	kids := make([]syntax.Node, len(n.Kids), len(n.Kids)+2)
	for i, k := range n.Kids {
		kids[i] = roomy(k)
	}
	for i := len(kids); i < cap(kids); i++ {
		kids[:cap(kids)][i].Text = "room"
	}
	n.Kids = kids
	return n
}

// isRoomy reports whether the room behind the ends is as it was.
func isRoomy(n syntax.Node) bool {
	for _, k := range n.Kids[len(n.Kids):cap(n.Kids)] {
		if !syntax.Equal(k, syntax.Node{Text: "room"}) {
			return false
		}
	}
	return !slices.ContainsFunc(n.Kids, func(k syntax.Node) bool { return !isRoomy(k) })
}

// Results are new memory: they share none with the tree that was given, nor do two parts of them.
func TestMemory(t *testing.T) {
	p := newPool(t, 2)
	for range 3000 {
		n := roomy(p.unit())
		before, was := places(n), written(n)
		core, f := Unit(n)
		Core(n)
		Fresh(n, 3)
		if !isRoomy(n) || places(n) != before || written(n) != was {
			t.Fatalf("%s is changed", was)
		}
		if f.Code != api.OK {
			continue
		}
		lists := map[*syntax.Node]bool{}
		mark := func(l []syntax.Node) bool {
			for i := range l[:cap(l)] {
				at := &l[:cap(l)][i]
				if lists[at] {
					return false
				}
				lists[at] = true
			}
			return true
		}
		given := slices.Collect(nodes(n))
		for _, m := range given {
			if !mark(m.Kids) {
				t.Fatal("the test is wrong: the tree shares memory itself")
			}
		}
		for m := range nodes(core) {
			if !mark(m.Kids) {
				t.Fatalf("the core tree of %s shares memory", was)
			}
		}
	}
}

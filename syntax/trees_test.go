package syntax

import (
	"math/rand"
	"reflect"
	"slices"
	"strings"
	"testing"

	"newel/api"
)

// P2.3: simple functions of trees.

func TestName(t *testing.T) {
	names := strings.Fields("SNone SUnit SImport SClass SDef SVal SType SGiven SExtension SEnumCase SMods SNames STParam SLists SParams SParam SParents SParent SBody TName TSelect TApply TFunction TAnd TOr TSingle TWild TLambda TMatch TCase XName XSelect XApply XNamed XTypes XInfix XPrefix XAssign XInt XLong XChar XString XTrue XFalse XNull XUnit XThis XSuper XInterp XIf XWhile XFor SGenerator SBinding SGuard XMatch SCase XTry SCases XThrow XReturn XLambda SLambdaParam XBlock XNew XTyped XQuote XSplice PWild PBind PTyped PLiteral PStable PApply PAlt")
	if len(names) != Kinds {
		t.Fatalf("there are %d names of %d kinds", len(names), Kinds)
	}
	for kind, want := range names {
		if got := Name(kind); got != want {
			t.Errorf("Name(%d) = %q; want %q", kind, got, want)
		}
	}
	for kind, want := range map[int]string{SNone: "SNone", SBody: "SBody", TName: "TName", TCase: "TCase", XName: "XName", XThis: "XThis", SGuard: "SGuard", XSplice: "XSplice", PWild: "PWild", PAlt: "PAlt", -1: "", Kinds: "", -1 << 63: "", 1<<63 - 1: ""} {
		if got := Name(kind); got != want {
			t.Errorf("Name(%d) = %q; want %q", kind, got, want)
		}
	}
}

func TestEqual(t *testing.T) {
	text := `(XInfix "+" (XInt 1) (XApply $e (XString "a") (XUnit)))`
	n := tree(t, text)
	for _, c := range []struct {
		text string
		want bool
	}{
		{text, true},
		{`(XInfix "-" (XInt 1) (XApply $e (XString "a") (XUnit)))`, false},
		{`(XInfix "+" (XInt 2) (XApply $e (XString "a") (XUnit)))`, false},
		{`(XInfix "+" (XLong 1) (XApply $e (XString "a") (XUnit)))`, false},
		{`(XInfix "+" (XInt 1) (XApply $e (XString "a")))`, false},
		{`(XInfix "+" (XInt 1) (XApply $e (XString "a") (XUnit) (XUnit)))`, false},
		{`(XInfix "+" (XInt 1) (XApply $e (XString "a") (XThis)))`, false},
		{`(XInfix "+" (XInt 1) (XApply $e (XString "b") (XUnit)))`, false},
		{`(XInfix "+" (XApply $e (XString "a") (XUnit)) (XInt 1))`, false},
	} {
		if got := Equal(n, tree(t, c.text)); got != c.want {
			t.Errorf("Equal(%s, %s) = %v", text, c.text, got)
		}
		if got := Equal(tree(t, c.text), n); got != c.want {
			t.Errorf("Equal(%s, %s) = %v", c.text, text, got)
		}
	}
	moved := tree(t, "(XBlock (XBlock) $e)")
	moved.At, moved.Kids[0].At, moved.Kids[1].At, moved.Kids[0].Kids = 9, -1, 1<<62, []Node{}
	if !Equal(moved, tree(t, "(XBlock (XBlock) $e)")) {
		t.Errorf("offsets, or nil and empty lists, count")
	}
	if !Equal(Node{Kind: -5, Num: -1}, Node{Kind: -5, Num: -1, At: 3}) || Equal(Node{Kind: -5}, Node{Kind: Kinds}) {
		t.Errorf("unknown kinds do not count")
	}
}

// Trees may be larger than a right tree, and may even have no end.
func TestEqualOfLargeTrees(t *testing.T) {
	for _, c := range []struct {
		name string
		make func() Node
	}{
		{"long", func() Node { return wide(3 * api.MaxNodes) }}, {"deep", func() Node { return chain(1 << 16) }}, {"doubled", func() Node { return doubled(100) }}, {"endless", endless},
	} {
		a, b := c.make(), c.make()
		if !Equal(a, a) || !Equal(a, b) {
			t.Errorf("a %s tree is not equal to itself", c.name)
		}
	}
	if Equal(chain(1<<16), chain(1<<16-1)) || Equal(doubled(100), doubled(99)) || Equal(endless(), doubled(100)) || Equal(doubled(100), endless()) {
		t.Errorf("trees of different depth are equal")
	}
	// A list that begins where another one does is another list.
	kids := []Node{{Kind: XUnit}, {Kind: XThis}}
	short, long := Node{Kind: XBlock, Kids: kids[:1]}, Node{Kind: XBlock, Kids: kids}
	other := []Node{{Kind: XUnit}, {Kind: XNull}}
	if Equal(Node{Kind: XBlock, Kids: []Node{long, short}}, Node{Kind: XBlock, Kids: []Node{{Kind: XBlock, Kids: other}, {Kind: XBlock, Kids: other[:1]}}}) {
		t.Errorf("the second kid is not compared")
	}
}

func TestSizeAndDepth(t *testing.T) {
	for _, c := range []struct {
		text        string
		size, depth int
	}{
		{"$-", 1, 1}, {"(XBlock)", 1, 1}, {"(XThrow $e)", 2, 2}, {"(XBlock $e $e $e)", 4, 2}, {"(XBlock (XThrow (XThrow $e)) $e (XThrow $e))", 7, 4}, {"(XBlock $e (XThrow (XThrow $e)))", 5, 4},
	} {
		n := tree(t, c.text)
		if size, depth := Size(n), Depth(n); size != c.size || depth != c.depth {
			t.Errorf("%s: Size %d, Depth %d", c.text, size, depth)
		}
	}
}

func TestSizeAndDepthBeyondTheLimits(t *testing.T) {
	const nodes, levels = api.MaxNodes + 1, api.MaxNest + 1
	side := Node{Kind: XBlock, Kids: []Node{chain(100), {Kind: XUnit}, chain(3)}}
	for _, c := range []struct {
		name        string
		n           Node
		size, depth int
	}{
		{"a chain", chain(api.MaxNest), api.MaxNest, api.MaxNest},
		{"a longer chain", chain(api.MaxNest + 1), levels, levels},
		{"one more", chain(api.MaxNest + 2), levels, levels},
		{"a very long chain", chain(1 << 16), levels, levels},
		{"a deep branch", side, levels + 4, levels},
		{"many nodes", wide(api.MaxNodes), api.MaxNodes, 3},
		{"one more node", wide(api.MaxNodes + 1), nodes, 3},
		{"two more nodes", wide(api.MaxNodes + 2), nodes, 3},
		{"very many nodes", wide(10 * api.MaxNodes), nodes, 3},
		{"many kids", Node{Kind: XBlock, Kids: make([]Node, 1<<20)}, nodes, 2},
		{"many kids and a deep one", Node{Kind: -1, Kids: append(make([]Node, 1<<16), chain(9))}, nodes, 10},
		{"a doubled tree", doubled(50), nodes, 51},
		{"a deeper doubled tree", doubled(100), nodes, levels},
		{"an endless tree", endless(), 2*levels - 1, levels},
	} {
		if size, depth := Size(c.n), Depth(c.n); size != c.size || depth != c.depth {
			t.Errorf("%s: Size %d, Depth %d; want %d, %d", c.name, size, depth, c.size, c.depth)
		}
	}
}

func TestCount(t *testing.T) {
	n := tree(t, `(XBlock $e (XThrow $e) (SVal "x" $m $t (XBlock)) (XName "y"))`)
	for kind, want := range map[int]int{XName: 3, XBlock: 2, SMods: 1, TName: 1, XThrow: 1, SNone: 0, XUnit: 0, -1: 0, Kinds: 0} {
		if got := Count(n, kind); got != want {
			t.Errorf("Count of %d = %d; want %d", kind, got, want)
		}
	}
	if got := Count(Node{Kind: -7, Kids: []Node{{Kind: -7}}}, -7); got != 2 {
		t.Errorf("Count of an unknown kind = %d", got)
	}
}

func TestNames(t *testing.T) {
	for _, c := range []struct {
		text string
		want []string
	}{
		{"$-", nil}, {`(XSelect "a" (XThis))`, nil}, {`(SVal "a" $m $- $-)`, nil}, {"(XString \"a\")", nil},
		{`(XInfix "+" (XName "b") (XApply (XName "a") (XName "b") (XNamed "c" (XName "B"))))`, []string{"B", "a", "b"}},
		{`(XTypes (XName "_z") (TName "T") (TSelect "S" (XName "a")) (TApply (TName "a") (TName "Z1")))`, []string{"T", "Z1", "_z", "a"}},
		{`(XBlock (XName "+") (XName "ab") (XName "a") (XName "a"))`, []string{"+", "a", "ab"}},
	} {
		if got := Names(tree(t, c.text)); !slices.Equal(got, c.want) {
			t.Errorf("Names of %s = %q; want %q", c.text, got, c.want)
		}
	}
	// Trees that are not right have names, too.
	n := Node{Kind: Kinds, Kids: []Node{{Kind: TName, Text: "\xff"}, {Kind: XName}, {Kind: TName, Text: "a b"}}}
	if got := Names(n); !slices.Equal(got, []string{"", "a b", "\xff"}) {
		t.Errorf("Names = %q", got)
	}
}

func TestRename(t *testing.T) {
	for _, c := range []struct{ text, from, to, want string }{
		{`(XName "a")`, "a", "b", `(XName "b")`},
		{`(XName "a")`, "b", "a", `(XName "a")`},
		{`(TName "a")`, "a", "+", `(TName "+")`},
		{`(XSelect "a" (XSuper "a"))`, "a", "b", `(XSelect "a" (XSuper "a"))`},
		{`(SVal "a" $m (TSelect "a" (XName "a")) (XInfix "a" (XName "a") (XTyped (XString "a") (TName "a"))))`, "a", "b", `(SVal "a" $m (TSelect "a" (XName "b")) (XInfix "a" (XName "b") (XTyped (XString "a") (TName "b"))))`},
		{`(XBlock (XName "ab") (XName "A") (XName "a"))`, "a", "ab", `(XBlock (XName "ab") (XName "A") (XName "ab"))`},
		{`(XBlock (XName "a") (XName "b"))`, "a", "b", `(XBlock (XName "b") (XName "b"))`},
		{`(XBlock (XName "a") (XUnit))`, "", "b", `(XBlock (XName "a") (XUnit))`},
	} {
		n := tree(t, c.text)
		got := Rename(n, c.from, c.to)
		if !Equal(got, tree(t, c.want)) {
			t.Errorf("Rename of %q to %q in %s = %s; want %s", c.from, c.to, c.text, written(got), c.want)
		}
		if !Equal(n, tree(t, c.text)) {
			t.Errorf("Rename changes %s to %s", c.text, written(n))
		}
	}
	n := Node{Kind: XBlock, At: 3, Kids: []Node{{Kind: XName, Text: "a", At: 5}, {Kind: XName, At: -1}}}
	got := Rename(n, "", "a b")
	if got.At != 3 || got.Kids[0].At != 5 || got.Kids[1].At != -1 || got.Kids[0].Text != "a" || got.Kids[1].Text != "a b" {
		t.Errorf("Rename = %v", got)
	}
}

// beyond has trees that exceed the limits.
func beyond() map[string]Node {
	return map[string]Node{
		"a node too many": wide(api.MaxNodes + 1), "many nodes": wide(3 * api.MaxNodes), "a level too many": chain(api.MaxNest + 1), "many levels": chain(1 << 16),
		"a doubled tree": doubled(50), "an endless tree": endless(),
	}
}

func TestNamesBeyondTheLimits(t *testing.T) {
	for name, n := range beyond() {
		if count, names := Count(n, XName), Names(n); count != 0 || names != nil {
			t.Errorf("%s: Count %d, Names %q", name, count, names)
		}
		if got := Rename(n, "x", "y"); !Equal(got, n) {
			t.Errorf("%s: Rename changes it", name)
		}
	}
	for _, n := range []Node{wide(api.MaxNodes), chain(api.MaxNest)} {
		if count, names := Count(n, XName), Names(n); count == 0 || !slices.Equal(names, []string{"x"}) {
			t.Errorf("at the limits: Count %d, Names %q", count, names)
		}
		if got := Rename(n, "x", "y"); !slices.Equal(Names(got), []string{"y"}) || Count(got, XName) != Count(n, XName) {
			t.Errorf("at the limits: Rename has the names %q", Names(got))
		}
	}
}

// spoil changes all nodes of a tree that has an end.
func spoil(n *Node) {
	for i := range n.Kids {
		spoil(&n.Kids[i])
	}
	*n = Node{Kind: -9, Text: "spoiled", Num: -9}
}

// R4: what Rename returns is new memory, and so are the lists of Names and the trees of Read.
func TestNewMemory(t *testing.T) {
	m := maker{rand.New(rand.NewSource(5))}
	for range 300 {
		n := m.right(4)
		text := written(n)
		for _, name := range []string{"a", "none"} {
			got := Rename(n, name, "b")
			spoil(&got)
		}
		if written(n) != text {
			t.Fatalf("the result of Rename shares memory with %s", text)
		}
	}
	for _, size := range []int{api.MaxNest + 1, 1 << 12} {
		n := chain(size)
		got := Rename(n, "x", "y")
		spoil(&got)
		if !Equal(n, chain(size)) {
			t.Errorf("the result of Rename of %d levels shares memory with the tree", size)
		}
	}
	ends := endless()
	got := Rename(ends, "x", "y")
	got.Kids[0].Text = "spoiled"
	if !Equal(ends, endless()) || !Equal(got.Kids[1], got) {
		t.Errorf("the result of Rename of an endless tree shares memory with it")
	}
	if one := Rename(Node{Kind: XBlock, Kids: make([]Node, 0, 5)}, "a", "b"); one.Kids != nil {
		t.Errorf("the result of Rename has room for more kids")
	}
	text := `(XInfix "+" (XName "a") (XThrow (XName "b")))`
	first, _ := Read(text)
	second, _ := Read(text)
	spoil(&first)
	if s, e := Text(second); s != text || e != api.OK {
		t.Errorf("the results of two Reads share memory: %s", s)
	}
}

// No function changes its arguments, or what stands behind the end of a list.
func TestArgumentsStay(t *testing.T) {
	room := []Node{{Kind: XName, Text: "a", At: 1}, {Kind: XName, Text: "b", At: 2}, {Kind: XUnit, At: 3}}
	n := Node{Kind: XBlock, Kids: room[:2], At: 7}
	Check(n)
	Text(n)
	Equal(n, n)
	Size(n)
	Depth(n)
	Count(n, XName)
	Names(n)
	Rename(n, "a", "c")
	if want := []Node{{Kind: XName, Text: "a", At: 1}, {Kind: XName, Text: "b", At: 2}, {Kind: XUnit, At: 3}}; !reflect.DeepEqual(room, want) {
		t.Errorf("the kids have become %v", room)
	}
}

// anyNode returns a node of any kind, with anything in it.
func (m maker) anyNode(d int) Node {
	n := Node{Kind: m.r.Intn(Kinds+4) - 2, Text: m.pick("", "", "a", "_", "+", "a.b", "\x00"), Num: int64(m.r.Intn(4) - 1), At: m.r.Int() - m.r.Int()}
	for range m.r.Intn(4) {
		if d > 0 {
			n.Kids = append(n.Kids, m.anyNode(d-1))
		}
	}
	return n
}

// P1: all functions return for any nodes.
func TestAnyNode(t *testing.T) {
	m := maker{rand.New(rand.NewSource(9))}
	for range 20000 {
		n := m.anyNode(m.r.Intn(4))
		size, f := Size(n), Check(n)
		if f.At < 0 || f.At >= size || f.Code == api.ErrKind && f.At > 0 || f.Code == api.OK && f.At != 0 {
			t.Fatalf("Check of %v = %v", n, f)
		}
		if s, e := Text(n); e != f.Code || (s == "") != (e != api.OK) {
			t.Fatalf("Text of %v = %q, %v", n, s, e)
		}
		unknown := n.Kind < 0 || n.Kind >= Kinds
		if (f == api.Fault{Code: api.ErrKind}) != unknown || (Name(n.Kind) == "") != unknown {
			t.Fatalf("Check of %v = %v", n, f)
		}
		if names := Names(n); !Equal(n, Rename(n, "a", "a")) || Count(n, XName)+Count(n, TName) < len(names) || !slices.IsSorted(names) {
			t.Fatalf("Names of %v = %q", n, names)
		}
		if Depth(n) < 1 || Depth(n) > size || Count(n, n.Kind) < 1 {
			t.Fatalf("%v: Depth %d, Size %d", n, Depth(n), size)
		}
	}
}

// P2.4: Equal is an equivalence.
func TestEqualIsAnEquivalence(t *testing.T) {
	m := maker{rand.New(rand.NewSource(6))}
	same := 0
	for range 2000 {
		a := m.right(2)
		b, c := m.changed(a), m.changed(a)
		for _, p := range [][3]Node{{a, b, c}, {a, Rename(a, "", ""), b}, {a, m.right(1), m.right(1)}} {
			if !Equal(p[0], p[0]) || Equal(p[0], p[1]) != Equal(p[1], p[0]) || Equal(p[0], p[1]) && Equal(p[1], p[2]) != Equal(p[0], p[2]) {
				t.Fatalf("Equal is no equivalence of %s, %s, %s", written(p[0]), written(p[1]), written(p[2]))
			}
			if Equal(p[0], p[1]) != (written(p[0]) == written(p[1])) {
				t.Fatalf("Equal(%s, %s) = %v", written(p[0]), written(p[1]), Equal(p[0], p[1]))
			}
			if Equal(p[0], p[1]) {
				same++
			}
		}
	}
	if same < 2000 {
		t.Errorf("only %d pairs are equal", same)
	}
}

// P2.4: Size is 1 plus the sizes of the Kids. Depth and Count go with it.
func TestSizesOfKids(t *testing.T) {
	m := maker{rand.New(rand.NewSource(7))}
	for range 2000 {
		n := m.changed(m.right(5))
		size, depth, total := 1, 0, 0
		for _, k := range n.Kids {
			size += Size(k)
			depth = max(depth, Depth(k))
		}
		for kind := range Kinds {
			total += Count(n, kind)
		}
		if Size(n) != size || Depth(n) != depth+1 || total != size {
			t.Fatalf("%s: Size %d, Depth %d, and %d nodes of all kinds", written(n), Size(n), Depth(n), total)
		}
	}
}

// P2.4: renaming there and back, where the new name does not occur, is nothing.
func TestRenameBack(t *testing.T) {
	m := maker{rand.New(rand.NewSource(8))}
	changed := 0
	for range 2000 {
		n := m.right(4)
		for _, from := range []string{"x", "a", "T", "val", "+"} {
			there := Rename(n, from, "fresh")
			if back := Rename(there, "fresh", from); !Equal(back, n) {
				t.Fatalf("%s: there and back is %s", written(n), written(back))
			}
			if slices.Contains(Names(n), from) != slices.Contains(Names(there), "fresh") || slices.Contains(Names(there), from) {
				t.Fatalf("%s: Names of %s are %q", written(n), written(there), Names(there))
			}
			if !Equal(there, n) {
				changed++
			}
		}
	}
	if changed < 500 {
		t.Errorf("only %d trees are changed", changed)
	}
}

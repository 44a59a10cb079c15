package desugar

import (
	"math/rand"
	"slices"
	"strings"
	"testing"

	"newel/api"
	"newel/parser"
	"newel/syntax"
)

// short has abbreviations for trees in text forms of tests.
var short = strings.NewReplacer(
	"$-", "(SNone)", "$m", "(SMods)", "$n", "(SNames)", "$l", "(SLists)", "$p", "(SParents)", "$b", "(SBody)",
	"$e", `(XName "x")`, "$t", `(TName "T")`, "$w", "(PWild)", "$u", "(XUnit)",
	"$g", "(SGenerator (PWild) (XUnit))", "$a", `(SParam "a" (SMods) (TName "T") (SNone))`,
)

// form reads a right tree from a text form with abbreviations, without its offsets.
func form(t *testing.T, text string) syntax.Node {
	t.Helper()
	n, f := syntax.Read(short.Replace(text))
	if f.Code != api.OK {
		t.Fatalf("Read(%s): %v", text, f)
	}
	return plain(n)
}

// spaced returns a text form with a blank between nodes that stand directly behind one another.
func spaced(text string) string { return strings.ReplaceAll(text, ")(", ") (") }

// plain returns a tree without offsets.
func plain(n syntax.Node) syntax.Node { return numbered(n, func() int { return 0 }) }

// numbered returns a tree with the offsets that a function gives its nodes in preorder.
func numbered(n syntax.Node, next func() int) syntax.Node {
	n.At = next()
	var kids []syntax.Node
	for _, k := range n.Kids {
		kids = append(kids, numbered(k, next))
	}
	n.Kids = kids
	return n
}

// counted returns a tree whose offsets are the indices of its nodes in preorder.
func counted(n syntax.Node) syntax.Node {
	i := -1
	return numbered(n, func() int { i++; return i })
}

// written returns the text form of a tree, or its error.
func written(n syntax.Node) string {
	s, e := syntax.Text(n)
	if e != api.OK {
		return "error " + e.Error()
	}
	return s
}

// unitOf returns the tree of the text of a unit, exprOf that of an expression.
func unitOf(t *testing.T, text string) syntax.Node { return parsed(t, parser.Parse, text) }

func exprOf(t *testing.T, text string) syntax.Node { return parsed(t, parser.Expr, text) }

func parsed(t *testing.T, parse func(string) (syntax.Node, api.Fault), text string) syntax.Node {
	t.Helper()
	n, f := parse(text)
	if f.Code != api.OK {
		t.Fatalf("%q: %v", text, f)
	}
	return n
}

func node(kind int, text string, kids ...syntax.Node) syntax.Node {
	return syntax.Node{Kind: kind, Text: text, Kids: kids}
}

func repeat(n syntax.Node, count int) []syntax.Node { return slices.Repeat([]syntax.Node{n}, count) }

// size counts the nodes of a tree, all of them.
func size(n syntax.Node) int {
	s := 1
	for _, k := range n.Kids {
		s += size(k)
	}
	return s
}

// class returns what may stand in the place of a node.
func class(n syntax.Node) string {
	switch name := syntax.Name(n.Kind); name {
	case "XNamed", "TCase", "SNone":
		return name
	case "SImport", "SClass", "SDef", "SVal", "SType", "SGiven", "SExtension", "SEnumCase":
		return "definition"
	default:
		if name[0] == 'S' {
			return name
		}
		return name[:1]
	}
}

// samples have each construct of the language, most of them in several forms.
var samples = []string{
	"val x = 1 + 2 * y; var z = a && b || c; lazy val w: Int = -x",
	"import a.b; import a.b.*; class A[T, +U, -V <: T](val x: T, private var y: U = 1 :: l)(using o: Ord[T]) extends P(1, a != b) with Q { def f = x; 1 + 2; val z = 3 }",
	"enum E[+A, -B] extends P(1) { case X, Y; case Z(a: A); case W[T](b: T)(using c: T) extends E[T, T]; case V extends E[Any, Any]; def f = 1 :: 2 :: l; enum I { case J } }",
	"enum F { case Only }; enum G[A](n: Int) { case H(x: A) extends G(1); case K[B](y: B) }; private enum M { case N; extension (x: M) def g = !x }",
	"extension [A, B <: A](x: A) def f[C](y: B)(using z: C): C = z",
	"extension (x: Int) { def a = x; private def b(y: Int) = x + y }; object O { extension [T](x: T) def c = { } }",
	"def f(x: Int, y: => Int, z: Int*)(using o: Ord[Int]): Int = { x += y; a(x) *= 2; a(1)(2) = 3; o.v = z; p.q -= 1; () }",
	"def g = for { x <- xs; if x > 1; y = x + 1; Some(z) = y; if y != 2; w <- f(y); if w; v = 1 } yield (x, y) => x",
	"def h = for (_ <- xs; y: Int <- ys; (z @ Some(_)) <- zs; u @ _ <- us) { print(s\"a$x${y + 1}\"); if (x) return }",
	"def i = for { x <- xs } do for { y <- ys; z = y :: x; if z == y } do { val a = 1; import b.c; a }",
	"def j = try { if (a) b else c } catch { case e: E if e != null => throw e; case _ => () } finally { }",
	"def k = x match { case 1 | -2 | 'c' | \"s\" | true | () => a; case a.B => null; case P(x, -3L, _: T) => this; case y @ (1 | 2) => super.y }",
	"def l = (_, x: Int, _) => _ => new A[T](1) with B { val y = 2; def z = _ => 3 }; given x[T](using o: T): Ord[T] = new Ord[T]; given Int = -1L",
	"type T = [X] =>> F[X]; type U >: A <: B; type V[X] = (A & B | C, p.q.T) => this.type; type W = X match { case List[t] => t; case U => Int }",
	"def m = '{ val a = 1; ${ b + c } }; def n = while (a < b) { a = a + 1 }; def o = f[Int, L[_ <: T]](1, x = 2)(using o); def p = (x: Int)",
	"def q = s\"\"; def r = s\"$a$b\"; def s = s\"${1 :: l}x\"; def t = a == b; def u = ~a; def v = +b; def w = - 1; def x = a +: b",
	"trait T { def f: Int; type U; val v: Int; object O { case class C(x: Int); case object D } }; case class E[A](a: A) extends T",
}

// pool has right trees by what may stand in their places.
type pool struct {
	r     *rand.Rand
	units []syntax.Node
	parts map[string][]syntax.Node
}

func newPool(t *testing.T, seed int64) *pool {
	p := &pool{r: rand.New(rand.NewSource(seed)), parts: map[string][]syntax.Node{}}
	for _, s := range samples {
		p.add(plain(unitOf(t, s)))
	}
	return p
}

// add adds a unit and its parts.
func (p *pool) add(n syntax.Node) {
	p.units = append(p.units, n)
	for m := range nodes(n) {
		p.parts[class(m)] = append(p.parts[class(m)], m)
	}
}

// changed returns a tree with another part in a place at random. It may be no right tree.
func (p *pool) changed(n syntax.Node) syntax.Node {
	if len(n.Kids) == 0 || p.r.Intn(5) == 0 {
		parts := p.parts[class(n)]
		return parts[p.r.Intn(len(parts))]
	}
	n.Kids = slices.Clone(n.Kids)
	i := p.r.Intn(len(n.Kids))
	switch p.r.Intn(12) {
	case 0:
		n.Kids = slices.Delete(n.Kids, i, i+1)
	case 1:
		n.Kids = slices.Insert(n.Kids, i, n.Kids[i])
	default:
		n.Kids[i] = p.changed(n.Kids[i])
	}
	return n
}

// tree returns a right tree at random that is like a given one, with numbers as its offsets.
func (p *pool) tree(n syntax.Node) syntax.Node {
	for range 1 + p.r.Intn(6) {
		if m := p.changed(n); m.Kind == n.Kind && isRight(m) {
			n = m
		}
	}
	return counted(n)
}

// unit returns a unit at random.
func (p *pool) unit() syntax.Node { return p.tree(p.units[p.r.Intn(len(p.units))]) }

// expr returns an expression at random, more often a large one.
func (p *pool) expr() syntax.Node {
	l := p.parts["X"]
	n := l[p.r.Intn(len(l))]
	for range 4 {
		if m := l[p.r.Intn(len(l))]; size(m) > size(n) {
			n = m
		}
	}
	return p.tree(n)
}

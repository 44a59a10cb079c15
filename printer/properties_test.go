package printer

import (
	"math/rand"
	"strings"
	"testing"

	"newel/api"
	"newel/parser"
	"newel/syntax"
	"newel/tokens"
)

const seeds = 1500

// root is a tree at random, and what reads it.
type root struct {
	node syntax.Node
	read func(string) (syntax.Node, api.Fault)
}

// roots makes a unit, an expression, a type and a pattern at random.
func roots(seed int64) []root {
	m := &maker{r: rand.New(rand.NewSource(seed))}
	budget := func() int {
		m.left = 5 + m.r.Intn(80)
		return 1 + m.r.Intn(30)
	}
	return []root{
		{m.unit(budget() + 1), parser.Parse},
		{m.expr(budget()), parser.Expr},
		{m.typ(budget()), parser.Type},
		{m.pattern(budget()), parser.Pattern},
	}
}

func textOf(n syntax.Node) string {
	s, _ := syntax.Text(n)
	return s
}

// moved returns an equal tree with other offsets.
func moved(n syntax.Node) syntax.Node {
	n.At += 7
	kids := make([]syntax.Node, len(n.Kids))
	for i, k := range n.Kids {
		kids[i] = moved(k)
	}
	n.Kids = kids
	return n
}

// TestRoundTrip reads what is printed.
func TestRoundTrip(t *testing.T) {
	for seed := range int64(seeds) {
		for _, c := range roots(seed) {
			for style := range Styles {
				text, e := Print(c.node, style)
				back, f := c.read(text)
				if e != api.OK || f.Code != api.OK || !syntax.Equal(back, c.node) {
					t.Fatalf("seed %d, style %d: %v, %v\n%s\n%s\n%s", seed, style, e, f, text, textOf(c.node), textOf(back))
				}
				if again, _ := Print(moved(c.node), style); again != text {
					t.Fatalf("seed %d, style %d: equal trees have different texts:\n%s\n%s", seed, style, text, again)
				}
				checkLines(t, text)
				if style == Braces {
					checkBraces(t, text)
				} else {
					checkIndented(t, text, back)
				}
			}
		}
	}
}

// TestLineRoundTrip reads what is written in a line.
func TestLineRoundTrip(t *testing.T) {
	for seed := range int64(seeds) {
		for _, c := range roots(seed)[1:] {
			text, e := Line(c.node)
			back, f := c.read(text)
			if e != api.OK || f.Code != api.OK || !syntax.Equal(back, c.node) || strings.Contains(text, "\n") || strings.TrimRight(text, " \t") != text {
				t.Fatalf("seed %d: %v, %v\n%s\n%s", seed, e, f, text, textOf(c.node))
			}
		}
	}
}

// checkLines looks for blanks at the ends of lines, and for the line feed at the end.
func checkLines(t *testing.T, text string) {
	t.Helper()
	for line := range strings.SplitSeq(text, "\n") {
		if strings.TrimRight(line, " \t") != line {
			t.Fatalf("blanks at the end of %q in\n%s", line, text)
		}
	}
	if strings.Contains(text, "\n") && !strings.HasSuffix(text, "\n") {
		t.Fatalf("no line feed at the end of\n%s", text)
	}
}

// checkBraces looks for blocks that are written by indentation.
func checkBraces(t *testing.T, text string) {
	t.Helper()
	list, _ := tokens.Scan(text)
	for _, k := range list {
		if k.Kind == tokens.Indent || k.Kind == tokens.Outdent {
			t.Fatalf("written by indentation at %d in\n%s", k.At, text)
		}
	}
}

// checkIndented looks for blocks that are not written by indentation, and for definitions and statements that begin no line.
func checkIndented(t *testing.T, text string, n syntax.Node) {
	t.Helper()
	list, _ := tokens.Scan(text)
	indents := map[int]bool{}
	for i, k := range list {
		if k.Kind == tokens.Indent {
			indents[k.At] = true
			if u := list[i-1]; u.Text == ":" { // the At of a body by indentation
				indents[u.At] = true
			}
		}
	}
	var visit func(n syntax.Node)
	lines := func(kids []syntax.Node) {
		for _, k := range kids {
			if strings.Trim(text[strings.LastIndex(text[:k.At], "\n")+1:k.At], " ") != "" {
				t.Fatalf("no line of its own at %d in\n%s", k.At, text)
			}
		}
	}
	region := func(n syntax.Node) {
		if len(n.Kids) == 0 {
			return
		}
		if !indents[n.At] && depthAt(list, n.At) == 0 {
			t.Fatalf("not written by indentation at %d in\n%s", n.At, text)
		}
		if indents[n.At] {
			lines(n.Kids)
		}
	}
	visit = func(n syntax.Node) {
		switch n.Kind {
		case syntax.SUnit:
			lines(n.Kids)
		case syntax.SClass:
			region(n.Kids[4])
		case syntax.SDef, syntax.SVal, syntax.SGiven:
			if value := n.Kids[len(n.Kids)-1]; value.Kind == syntax.XBlock {
				region(value)
			}
		case syntax.XBlock:
			if indents[n.At] && text[n.At] != '{' {
				lines(n.Kids)
			}
		}
		for _, k := range n.Kids {
			visit(k)
		}
	}
	visit(n)
}

// depthAt returns the number of open brackets in front of an offset.
func depthAt(list []tokens.Token, at int) int {
	depth := 0
	for _, k := range list {
		if k.At >= at {
			break
		}
		if k.Kind != tokens.Mark {
			continue
		}
		switch k.Text {
		case "(", "[", "{", "'{", "${":
			depth++
		case ")", "]", "}":
			depth--
		}
	}
	return depth
}

// TestFormatProperties formats texts twice, and in both styles.
func TestFormatProperties(t *testing.T) {
	for seed := range int64(seeds) {
		n := roots(seed)[0].node
		text, _ := Print(n, int(seed%2))
		braces, f := Format(text, Braces)
		indented, g := Format(text, Indented)
		if f.Code != api.OK || g.Code != api.OK {
			t.Fatalf("seed %d: %v, %v\n%s", seed, f, g, text)
		}
		for _, c := range []struct {
			from, want string
			style      int
		}{{braces, braces, Braces}, {indented, indented, Indented}, {braces, indented, Indented}, {indented, braces, Braces}} {
			if got, f := Format(c.from, c.style); f.Code != api.OK || got != c.want {
				t.Fatalf("seed %d, style %d: %v\n%s\n%s\n%s", seed, c.style, f, c.from, got, c.want)
			}
		}
		for _, s := range []string{braces, indented} {
			if back, _ := parser.Parse(s); !syntax.Equal(back, n) {
				t.Fatalf("seed %d: another tree\n%s\n%s", seed, text, s)
			}
		}
	}
}

// TestWordsProperties joins the words of texts.
func TestWordsProperties(t *testing.T) {
	for seed := range int64(seeds) {
		for _, c := range roots(seed) {
			text, _ := Print(c.node, int(seed%2))
			words, f := Words(text)
			again, g := Words(strings.Join(words, " "))
			if f.Code != api.OK || g.Code != api.OK || strings.Join(again, "\n") != strings.Join(words, "\n") {
				t.Fatalf("seed %d: %v, %v\n%s\n%q\n%q", seed, f, g, text, words, again)
			}
		}
	}
}

// TestArguments looks whether a tree is changed.
func TestArguments(t *testing.T) {
	for seed := range int64(300) {
		for _, c := range roots(seed) {
			before := textOf(c.node)
			Print(c.node, Braces)
			Print(c.node, Indented)
			Line(c.node)
			if textOf(c.node) != before {
				t.Fatalf("seed %d: the tree has changed", seed)
			}
		}
	}
}

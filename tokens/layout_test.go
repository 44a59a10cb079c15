package tokens

import (
	"math"
	"slices"
	"strings"
	"testing"

	"newel/api"
)

// P1.2: layout.

func expectLayout(t *testing.T, text, want string) {
	t.Helper()
	if got := plain(mustScan(t, text)); got != want {
		t.Errorf("Scan(%q) =\n%s; want\n%s", text, got, want)
	}
}

func TestLayoutLines(t *testing.T) {
	expectLayout(t, "", "Stop")
	expectLayout(t, "a", "a Stop")
	expectLayout(t, "a\nb", "a Newline b Stop")
	expectLayout(t, "\n\n  a\n\n  b\n\n", "a Newline b Stop")
	expectLayout(t, "a // x\n/* y\n*/b", "a Newline b Stop") // b stands in the column 2, which is no fault
	expectLayout(t, "a\n  b", "a Newline b Stop")
	expectLayout(t, "a ;\nb", "a ; b Stop")
	expectLayout(t, "a\n; b", "a ; b Stop")
}

func TestLayoutIndents(t *testing.T) {
	expectLayout(t, "def f =\n  a\n  b\ng", "def f = Indent a Newline b Outdent Newline g Stop")
	expectLayout(t, "a =\n b =\n  c\nd", "a = Indent b = Indent c Outdent Outdent Newline d Stop")
	expectLayout(t, "a =\n b =\n  c\n d", "a = Indent b = Indent c Outdent Newline d Outdent Stop")
	expectLayout(t, "a =\n  b", "a = Indent b Outdent Stop")
	expectLayout(t, "a =\nb", "a = b Stop")
	expectLayout(t, "  a =\n  b", "a = b Stop")
	expectLayout(t, "a =\n  b\n    c\n  d", "a = Indent b Newline c Newline d Outdent Stop")
	expectLayout(t, "a =\n\tb\n\tc", "a = Indent b Newline c Outdent Stop")
	// A line that goes on closes indentations, too, but begins no statement.
	expectLayout(t, "if a then\n  b\nelse\n  c\nd", "if a then Indent b Outdent else Indent c Outdent Newline d Stop")
	expectLayout(t, "a =\n  b =\n  c\nd", "a = Indent b = c Outdent Newline d Stop")
	expectLayout(t, "a =\n  b =\nc", "a = Indent b = Outdent c Stop")
}

func TestLayoutOpeners(t *testing.T) {
	for _, u := range strings.Fields(": = => <- then else do match try catch finally yield throw") {
		expectLayout(t, "a "+u+"\n b\n c\nd", "a "+u+" Indent b Newline c Outdent Newline d Stop")
		expectLayout(t, "a "+u+"\nb", "a "+u+" b Stop")
	}
	// A statement may end with return, so that a Newline stands behind the Indent.
	expectLayout(t, "return\n b\n c\nd", "return Indent Newline b Newline c Outdent Newline d Stop")
	expectLayout(t, "return\nb", "return Newline b Stop")
	for _, u := range strings.Fields("+ , . ; <: >: if case val with extends") {
		expectLayout(t, "a "+u+"\n b", "a "+u+" b Stop")
	}
	for _, u := range strings.Fields("x 1 2L 'c' \"s\" _ @ this super null true false") {
		l := mustScan(t, "a "+u+"\n b")
		if got := l[2].Kind; got != Newline {
			t.Errorf("behind %s: %s", u, kindNames[got])
		}
	}
}

func TestLayoutContinuations(t *testing.T) {
	for _, c := range strings.Fields(", . = => <- : <: >: ; catch do else extends finally match then with yield") {
		expectLayout(t, "a\n"+c+" b", "a "+c+" b Stop")
	}
	for _, c := range strings.Fields("@ _ case if val false return x") {
		expectLayout(t, "a\n"+c+" b", "a Newline "+c+" b Stop")
	}
	// An Op goes on with the line in front of it, if something stands behind it that is no token.
	expectLayout(t, "a\n+ b", "a + b Stop")
	expectLayout(t, "a\n++\nb", "a ++ b Stop")
	expectLayout(t, "a\n+\tb", "a + b Stop")
	expectLayout(t, "a\n+/**/b", "a + b Stop")
	expectLayout(t, "a\n+", "a + Stop")
	expectLayout(t, "a\n-b", "a Newline - b Stop")
	expectLayout(t, "a\n--b", "a Newline -- b Stop")
	expectLayout(t, "a\n-(b)", "a Newline - ( b ) Stop")
}

func TestLayoutUnfinished(t *testing.T) {
	for _, u := range strings.Fields("+ == , . ; = => <- : <: >: abstract case catch class def do else enum extends extension final finally for given if import inline lazy match new object override private sealed then throw trait try type using val var volatile while with yield") {
		expectLayout(t, "a "+u+"\nb", "a "+u+" b Stop")
	}
	for _, u := range strings.Fields("x _ @ false null return super this true") {
		expectLayout(t, "a "+u+"\nb", "a "+u+" Newline b Stop")
	}
	expectLayout(t, "a '{\nb\n}\nc", "a '{ b } Newline c Stop")
	expectLayout(t, "a ()\n[b]\n{c}", "a ( ) Newline [ b ] Newline { c } Stop")
	expectLayout(t, "a s\"b\"\nc", "a s b  Newline c Stop")
}

func TestLayoutBrackets(t *testing.T) {
	expectLayout(t, "a (\n  b\nc\n) d", "a ( b c ) d Stop")
	expectLayout(t, "a [\n  b =\n    c\nd\n] e", "a [ b = c d ] e Stop")
	expectLayout(t, "a {\n  b\nc\n d\n}\ne", "a { b Newline c Newline d } Newline e Stop")
	expectLayout(t, "a {\n\n}", "a { } Stop")
	expectLayout(t, "({\n a\n b\n}\nc)", "( { a Newline b } c ) Stop")
	expectLayout(t, "'{\n a\n b\n}", "'{ a Newline b } Stop")
	expectLayout(t, "s\"${\n a\n b\n}c\"", "s  ${ a Newline b } c  Stop")
	expectLayout(t, "'{ ${\n a\n b\n} }", "'{ ${ a Newline b } } Stop")
	// Indentations inside of braces end in front of the brace.
	expectLayout(t, "{ a =\n   b }", "{ a = Indent b Outdent } Stop")
	expectLayout(t, "{\n a =\n  b =\n   c\n}\nd", "{ a = Indent b = Indent c Outdent Outdent } Newline d Stop")
	expectLayout(t, "{ a =\n  b\n    }", "{ a = Indent b Outdent } Stop")
	expectLayout(t, "({ a =\n  b\n    })", "( { a = Indent b Outdent } ) Stop")
	expectLayout(t, "a =\n  {\nb\n  }\n  c", "a = Indent { b } Newline c Outdent Stop")
	// There is no fault of the width in a brace.
	expectLayout(t, "{\n  a =\n    b\n c\n}", "{ a = Indent b Outdent Newline c } Stop")
}

// The reference width in a brace is the Col of the first token of the line in which it stands.
func TestLayoutReferenceWidth(t *testing.T) {
	expectLayout(t, "  a b {\n    c =\n   d\n  }", "a b { c = Indent d Outdent } Stop")
	expectLayout(t, "  a b {\n    c =\n  d\n  }", "a b { c = d } Stop")
	expectLayout(t, "a =\n  b c { d =>\n    e\n    f\n  }\ng", "a = Indent b c { d => Indent e Newline f Outdent } Outdent Newline g Stop")
	expectLayout(t, "  a '{ b =\n c }", "a '{ b = c } Stop")
	expectLayout(t, "  a s\"${ b =\n   c }\"", "a s  ${ b = Indent c Outdent }   Stop")
	expectLayout(t, "  a s\"${ b =\n  c }\"", "a s  ${ b = c }   Stop")
	// The line of the inner brace begins behind that of the outer one.
	expectLayout(t, "{\n    { a =\n   b\n    }\n}", "{ { a = b } } Stop")
	expectLayout(t, "{\n    { a =\n     b\n    }\n}", "{ { a = Indent b Outdent } } Stop")
}

func TestLayoutPlaces(t *testing.T) {
	want := []Token{
		{Name, "a", 0, 0, 0}, {Mark, "=", 2, 0, 2},
		{Indent, "", 5, 1, 1}, {Name, "b", 5, 1, 1}, {Mark, "=", 7, 1, 3},
		{Indent, "", 11, 2, 2}, {Name, "c", 11, 2, 2},
		{Outdent, "", 13, 3, 0}, {Outdent, "", 13, 3, 0}, {Newline, "", 13, 3, 0}, {Name, "dd", 13, 3, 0}, {Mark, "=", 16, 3, 3},
		{Indent, "", 20, 4, 2}, {Name, "eee", 20, 4, 2},
		{Outdent, "", 21, 5, 0}, {Stop, "", 21, 5, 0},
	}
	if got := mustScan(t, "a =\n b =\n  c\ndd =\n  eee"); !slices.Equal(got, want) {
		t.Errorf("got\n%v; want\n%v", got, want)
	}
	want = []Token{{Mark, "{", 0, 0, 0}, {Mark, "=", 2, 0, 2}, {Indent, "", 5, 1, 1}, {Name, "a", 5, 1, 1}, {Outdent, "", 7, 1, 3}, {Mark, "}", 7, 1, 3}, {Stop, "", 8, 2, 0}}
	if got := mustScan(t, "{ =\n a }"); !slices.Equal(got, want) {
		t.Errorf("got\n%v; want\n%v", got, want)
	}
	if got := mustScan(t, " "); !slices.Equal(got, []Token{{Kind: Stop}}) {
		t.Errorf("got %v", got)
	}
	if got := mustScan(t, "\n  ab c"); !slices.Equal(got, []Token{{Name, "ab", 3, 1, 2}, {Name, "c", 6, 1, 5}, {Stop, "", 7, 2, 0}}) {
		t.Errorf("got %v", got)
	}
	if got := mustScan(t, "\n  ab"); !slices.Equal(got, []Token{{Name, "ab", 3, 1, 2}, {Stop, "", 4, 2, 0}}) {
		t.Errorf("got %v", got)
	}
}

func TestLayoutWidthFaults(t *testing.T) {
	for _, c := range []struct {
		text string
		at   int
	}{
		{"a =\n  b\n c", 9},
		{"  a\n b", 5},
		{"  a =\n b", 7},
		{"  a =\n    b\n c", 13},
		{"a =\n  b =\n    c\n   d", 19},
		{"a =\n  b {\n  }\n c", 15},
		{"{\n  a =\n    b =\n        c\n      }", 32},
	} {
		l, f := Scan(c.text)
		expectFault(t, "Scan of "+c.text, l, f, api.Fault{At: c.at, Code: api.ErrOrder})
	}
}

// tokensOf makes a list of marks, names and keywords in one line.
func tokensOf(words string) []Token {
	var out []Token
	for i, s := range strings.Fields(words) {
		k := Mark
		if inWord(s[0]) {
			k = Name
		}
		out = append(out, Token{Kind: k, Text: s, At: 10 * i, Col: 10 * i})
	}
	return out
}

func TestLayoutBracketFaults(t *testing.T) {
	for _, c := range []struct {
		words string
		index int
	}{
		{")", 0}, {"a ]", 1}, {"a }", 1}, {"( }", 1}, {"{ )", 1}, {"[ )", 1}, {"'{ ]", 1}, {"${ )", 1}, {"a ( ) )", 3},
		{"(", 0}, {"a [", 1}, {"a { ( )", 1}, {"a ( '{", 2}, {"a ( { }", 1}, {"${ a", 0},
	} {
		l, f := Layout(tokensOf(c.words))
		expectFault(t, "Layout of "+c.words, l, f, api.Fault{At: c.index, Code: api.ErrSyntax})
	}
	for _, words := range []string{"", "a", "( )", "[ ]", "{ }", "'{ }", "${ }", "( [ { '{ ${ } } } ] )"} {
		if _, f := Layout(tokensOf(words)); f != (api.Fault{}) {
			t.Errorf("Layout of %s: %v", words, f)
		}
	}
	// Names and strings are no brackets.
	if _, f := Layout([]Token{{Kind: String, Text: "("}, {Kind: Name, Text: "}", At: 3, Col: 3}}); f != (api.Fault{}) {
		t.Errorf("fault %v", f)
	}
	// Indentations are open inside of the bracket that is open at the end.
	l, f := Layout([]Token{{Mark, "{", 0, 0, 0}, {Mark, "=", 1, 0, 1}, {Name, "a", 4, 1, 1}})
	expectFault(t, "Layout", l, f, api.Fault{At: 0, Code: api.ErrSyntax})
	l, f = Layout([]Token{{Mark, "=", 0, 0, 0}, {Name, "a", 4, 1, 1}, {Mark, ")", 6, 2, 0}})
	expectFault(t, "Layout", l, f, api.Fault{At: 2, Code: api.ErrSyntax})
}

func TestLayoutDepth(t *testing.T) {
	nest := api.MaxNest - 1 // the first region counts
	deep, close := strings.Repeat("( ", nest), strings.Repeat(") ", nest)
	if _, f := Layout(tokensOf(deep + close + "( )")); f != (api.Fault{}) {
		t.Errorf("fault %v", f)
	}
	l, f := Layout(tokensOf(deep + "( ) " + close))
	expectFault(t, "Layout", l, f, api.Fault{At: nest, Code: api.ErrDepth})
	stairs := func(n int) string {
		var s strings.Builder
		for i := range n {
			s.WriteString(strings.Repeat(" ", i) + "a =\n")
		}
		return s.String() + strings.Repeat(" ", n) + "a"
	}
	mustScan(t, stairs(nest))
	l, f = Scan(stairs(nest + 1))
	expectFault(t, "Scan of stairs", l, f, api.Fault{At: 2 * (nest + 1), Code: api.ErrDepth})
	// Closed regions do not count.
	mustScan(t, strings.Repeat("a =\n  b\n", 200)+strings.Repeat("{ a =\n   b }\n", 200))
}

func TestLayoutListFaults(t *testing.T) {
	a := Token{Kind: Name, Text: "a", At: 5, Line: 2, Col: 5}
	part := Token{Kind: Part, Text: "a", At: 5, Line: 2, Col: 5}
	for _, c := range []struct {
		list  []Token
		index int
		code  api.Errno
	}{
		{[]Token{{Kind: -1}}, 0, api.ErrKind},
		{[]Token{a, {Kind: Newline, At: 9, Line: 2, Col: 9}}, 1, api.ErrKind},
		{[]Token{{Kind: Indent}}, 0, api.ErrKind}, {[]Token{{Kind: Outdent}}, 0, api.ErrKind}, {[]Token{{Kind: Stop}}, 0, api.ErrKind}, {[]Token{{Kind: Kinds}}, 0, api.ErrKind},
		{[]Token{a, {At: 6, Line: 1, Col: 6}}, 1, api.ErrOrder},
		{[]Token{a, {At: 5, Line: 2, Col: 6}}, 1, api.ErrOrder},
		{[]Token{a, {At: 5, Line: 3, Col: 6}}, 1, api.ErrOrder},
		{[]Token{a, {At: 4, Line: 3, Col: 0}}, 1, api.ErrOrder},
		{[]Token{a, {At: 6, Line: 2, Col: 5}}, 1, api.ErrOrder},
		{[]Token{a, {At: 6, Line: 2, Col: 4}}, 1, api.ErrOrder},
		{[]Token{part, {Kind: End, At: 4, Line: 2, Col: 5}}, 1, api.ErrOrder},
		{[]Token{part, {Kind: End, At: 5, Line: 2, Col: 4}}, 1, api.ErrOrder},
		{[]Token{part, {Kind: End, At: 5, Line: 1, Col: 5}}, 1, api.ErrOrder},
		{[]Token{a, {Kind: Stop, At: 5, Line: 2, Col: 5}}, 1, api.ErrKind},
		{[]Token{a, {At: 5, Line: 2, Col: 6}, {Kind: Stop}}, 1, api.ErrOrder},
		{[]Token{{Mark, ")", 0, 0, 0}, {Kind: Stop, At: 1, Col: 1}}, 1, api.ErrKind},
		{[]Token{{Mark, ")", 0, 0, 0}, {Kind: Name}}, 1, api.ErrOrder},
	} {
		l, f := Layout(c.list)
		expectFault(t, "Layout", l, f, api.Fault{At: c.index, Code: c.code})
	}
	for _, list := range [][]Token{
		{a, {At: 6, Line: 2, Col: 6}},
		{a, {At: 6, Line: 3, Col: 5}},
		{part, {Kind: End, At: 5, Line: 2, Col: 5}},
		{part, {Kind: End, At: 6, Line: 2, Col: 5}},
		{part, {Kind: End, At: 5, Line: 2, Col: 6}},
	} {
		if _, f := Layout(list); f != (api.Fault{}) {
			t.Errorf("Layout of %v: %v", list, f)
		}
	}
}

func TestLayoutLimit(t *testing.T) {
	list := make([]Token, maxList+1)
	for i := range list {
		list[i] = Token{Kind: Name, Text: "a", At: i, Line: i}
	}
	if l, f := Layout(list[:maxList]); f != (api.Fault{}) || len(l) != 2*maxList {
		t.Errorf("%d tokens, fault %v", len(l), f)
	}
	l, f := Layout(list)
	expectFault(t, "Layout", l, f, api.Fault{Code: api.ErrLimit})
	list[maxList].Kind = Stop
	l, f = Layout(list)
	expectFault(t, "Layout", l, f, api.Fault{At: maxList, Code: api.ErrKind})
	list[maxList].Kind = Name
	list[0] = Token{Kind: Mark, Text: ")"}
	l, f = Layout(list)
	expectFault(t, "Layout", l, f, api.Fault{Code: api.ErrLimit})
}

// Offsets of lists that no text has may be any numbers.
func TestLayoutFarOffsets(t *testing.T) {
	for _, c := range []struct {
		op, next int
		want     string
	}{
		{math.MaxInt - 2, math.MaxInt, "a Newline +++ b Stop"},
		{math.MaxInt - 4, math.MaxInt, "a +++ b Stop"},
		{math.MinInt + 1, math.MaxInt, "a +++ b Stop"},
		{math.MinInt + 1, math.MinInt + 4, "a Newline +++ b Stop"},
	} {
		list := []Token{{Name, "a", math.MinInt, 0, 0}, {Op, "+++", c.op, 1, 0}, {Name, "b", c.next, 1, 4}}
		l, f := Layout(list)
		if f != (api.Fault{}) || plain(l) != c.want {
			t.Errorf("Layout = %s, %v; want %s", plain(l), f, c.want)
		}
	}
}

// Words that are no keywords count for nothing, whatever their kind.
func TestLayoutStrangeTexts(t *testing.T) {
	for _, c := range []struct {
		kind int
		text string
		want string
	}{
		{Key, "x", "x Newline b Stop"}, {Name, "=", "= Newline b Stop"}, {Op, "=", "= b Stop"}, {Mark, "x", "x Newline b Stop"}, {Mark, "do", "do Newline b Stop"}, {String, "do", "do Newline b Stop"},
	} {
		l, f := Layout([]Token{{c.kind, c.text, 0, 0, 0}, {Name, "b", 5, 1, 1}})
		if f != (api.Fault{}) || plain(l) != c.want {
			t.Errorf("Layout behind %s %s = %s, %v; want %s", kindNames[c.kind], c.text, plain(l), f, c.want)
		}
	}
}

// R4: results are new memory, arguments stay as they are.
func TestLayoutMemory(t *testing.T) {
	text := "a =\n  b {\n  c\n  }\nd"
	list := slices.Grow(mustRaw(t, text), 10)
	behind := list[:len(list)+5]
	before := slices.Clone(behind)
	out, _ := Layout(list)
	for i := range out {
		out[i] = Token{Kind: Stop, Text: "changed"}
	}
	if !slices.Equal(behind, before) {
		t.Error("the argument has changed")
	}
	again, f := Layout(list)
	if f != (api.Fault{}) || plain(again) != "a = Indent b { c } Outdent Newline d Stop" {
		t.Errorf("Layout = %s, %v", plain(again), f)
	}
}

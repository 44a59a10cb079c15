package printer

import (
	"bytes"
	"maps"
	"strings"

	"newel/api"
	"newel/syntax"
	"newel/tokens"
)

// maxWidth is the number of blanks by which a line is indented more than the one around it.
const maxWidth = 2

// operators has the bytes of operators.
const operators = "+-*/%<>=!&|^~:?"

// A rule writes a node of a kind.
type rule = func(*writer, syntax.Node, place)

// writer writes the text of a tree.
type writer struct {
	rules map[int]rule
	width int // of an indentation
	text  []byte
	start int  // the indentation of the line that is being written
	bad   bool // no text has the tree
	long  bool // the text would be too long
}

// place says where a text stands.
type place struct {
	indent int  // of its lines
	flat   bool // no line ends here
	tail   bool // what stands here may end by indentation: no bracket is open, and what follows can begin a line
}

// inside returns the place of what stands in brackets, or in front of something that begins no line.
func (p place) inside() place {
	p.tail = false
	return p
}

// deeper returns the place of lines that are indented more.
func (w *writer) deeper(p place) place {
	p.indent += w.width
	return p
}

// rules returns what writes the nodes of each kind. Kinds without a rule stand only where the rule of another one writes them.
func rules() map[int]rule {
	all := definitionRules()
	maps.Copy(all, typeRules())
	maps.Copy(all, expressionRules())
	maps.Copy(all, controlRules())
	maps.Copy(all, patternRules())
	return all
}

// root writes a whole text. What has several lines, and every unit, ends with a line feed.
func (w *writer) root(n syntax.Node, p place) {
	w.text, w.start, w.long = nil, 0, false
	w.node(n, p)
	if len(w.text) > 0 && (n.Kind == syntax.SUnit || bytes.IndexByte(w.text, '\n') >= 0) {
		w.put("\n")
	}
}

// node writes a node wherever one of its class may stand.
func (w *writer) node(n syntax.Node, p place) {
	write, ok := w.rules[n.Kind]
	if !ok {
		w.bad = true
		return
	}
	write(w, n, p)
}

// bound writes a node that binds at least as tightly as a level, or stands in parentheses.
func (w *writer) bound(n syntax.Node, level int, p place) {
	if levelOf(n) < level {
		w.parentheses(n, p)
		return
	}
	w.node(n, p)
}

func (w *writer) parentheses(n syntax.Node, p place) {
	w.put("(")
	w.node(n, p.inside())
	w.put(")")
}

// put writes texts, as long as there is room. Behind the limit the tree is still looked through for what no text has.
func (w *writer) put(texts ...string) {
	for _, s := range texts {
		if w.long || len(w.text)+len(s) > api.MaxText {
			w.long = true
			return
		}
		w.text = append(w.text, s...)
	}
}

// list writes items with a mark between them.
func (w *writer) list(mark string, item func(syntax.Node), items ...syntax.Node) {
	for i, n := range items {
		if i > 0 {
			w.put(mark)
		}
		item(n)
	}
}

// at returns a function that writes nodes in a place.
func (w *writer) at(p place) func(syntax.Node) {
	return func(n syntax.Node) { w.node(n, p) }
}

// bracketed writes nodes between brackets, with commas between them.
func (w *writer) bracketed(open, last string, p place, items ...syntax.Node) {
	w.put(open)
	w.list(", ", w.at(p.inside()), items...)
	w.put(last)
}

// liner returns a function that begins a line of a place. In a flat place it goes on in the same line.
func (w *writer) liner(p place) func() {
	if p.flat {
		return func() { w.put(" ") }
	}
	blanks := strings.Repeat(" ", p.indent)
	return func() {
		if len(w.text) > 0 {
			w.put("\n", blanks)
		}
		w.start = p.indent
	}
}

// lines writes items in lines of their own, as a rule does.
func (w *writer) lines(write rule, p place, items ...syntax.Node) {
	begin := w.liner(p)
	for i, n := range items {
		if i > 0 {
			w.separate(p, begin)
		}
		begin()
		write(w, n, p)
	}
}

// separate writes what the end of a line does not say: a semicolon in flat places, and behind a token behind which lines do not end. If indentations end there, the semicolon begins a line, to stand behind their ends.
func (w *writer) separate(p place, begin func()) {
	word := w.lastWord()
	switch {
	case p.flat:
		w.put(";")
	case word == "type" || w.endsInOperator():
		if w.start > p.indent {
			begin()
		}
		w.put(";")
	case word == "return" && !p.tail:
		// In braces an indentation would begin behind it.
		w.put(";")
	}
}

// lastWord returns the keyword, name or number at the end of what is written.
func (w *writer) lastWord() string {
	text := string(w.text[max(0, len(w.text)-api.MaxName):])
	return text[len(strings.TrimRightFunc(text, inWord)):]
}

func inWord(r rune) bool {
	return r == '_' || r >= '0' && r <= '9' || r >= 'A' && r <= 'Z' || r >= 'a' && r <= 'z'
}

// endsInOperator reports whether an operator is the last token that is written.
func (w *writer) endsInOperator() bool {
	last := len(w.text) - 1
	return last >= 0 && strings.IndexByte(operators, w.text[last]) >= 0
}

// braces writes items between a mark that opens a brace and the one that closes it.
func (w *writer) braces(open string, write rule, p place, items ...syntax.Node) {
	p = p.inside()
	w.put(open)
	if len(items) > 0 {
		w.lines(write, w.deeper(p), items...)
		w.liner(p)()
	}
	w.put("}")
}

// region writes items by indentation behind an opener, or in braces where this is not permitted.
func (w *writer) region(opener string, write rule, p place, items ...syntax.Node) {
	if !p.tail || len(items) == 0 {
		w.braces(" {", write, p, items...)
		return
	}
	w.put(opener)
	w.lines(write, w.deeper(p), items...)
}

// value writes an expression behind an opener, where a block may be written by indentation.
func (w *writer) value(n syntax.Node, p place) {
	if n.Kind == syntax.XBlock {
		w.region("", (*writer).node, p, n.Kids...)
		return
	}
	w.put(" ")
	w.node(n, p)
}

// kindOf returns the kind of the token that a text is, or -1.
func kindOf(text string) int {
	l, f := tokens.Raw(text)
	if f.Code != api.OK || len(l) != 1 || l[0].Text != text {
		return -1
	}
	return l[0].Kind
}

// name writes a name of letters. No text has one that is a keyword.
func (w *writer) name(text string) {
	if kindOf(text) != tokens.Name {
		w.bad = true
	}
	w.put(text)
}

// id writes a name, or an operator as a name.
func (w *writer) id(text string) {
	if kindOf(text) == tokens.Op {
		w.put(text)
		return
	}
	w.name(text)
}

// path writes names with points between them.
func (w *writer) path(text string) {
	for i, name := range strings.Split(text, ".") {
		if i > 0 {
			w.put(".")
		}
		w.name(name)
	}
}

// colon writes a colon that is no part of an operator in front of it.
func (w *writer) colon() {
	if w.endsInOperator() {
		w.put(" ")
	}
	w.put(": ")
}

// literal writes a token in its canonical form. Every string has one, but it may be too long.
func (w *writer) literal(t tokens.Token) {
	if w.long {
		return
	}
	s, e := tokens.Show([]tokens.Token{t})
	w.long = e != api.OK
	w.put(s)
}

package printer

import (
	"strconv"

	"newel/api"
	"newel/syntax"
	"newel/tokens"
)

func expressionRules() map[int]rule {
	return map[int]rule{
		syntax.XName:   (*writer).variable,
		syntax.XSelect: (*writer).selection,
		syntax.XApply:  (*writer).application,
		syntax.XNamed:  (*writer).namedArgument,
		syntax.XTypes:  (*writer).typeArguments,
		syntax.XInfix:  (*writer).infix,
		syntax.XPrefix: (*writer).prefix,
		syntax.XAssign: (*writer).assignment,
		syntax.XInt:    (*writer).number,
		syntax.XLong:   (*writer).number,
		syntax.XChar:   (*writer).character,
		syntax.XString: (*writer).characters,
		syntax.XTrue:   (*writer).word,
		syntax.XFalse:  (*writer).word,
		syntax.XNull:   (*writer).word,
		syntax.XUnit:   (*writer).word,
		syntax.XThis:   (*writer).word,
		syntax.XInterp: (*writer).interpolated,
		syntax.XBlock:  (*writer).block,
		syntax.XNew:    (*writer).newObject,
		syntax.XTyped:  (*writer).typedExpr,
		syntax.XQuote:  (*writer).quote,
		syntax.XSplice: (*writer).splice,
	}
}

func (w *writer) variable(n syntax.Node, p place) {
	w.name(n.Text)
}

func (w *writer) selection(n syntax.Node, p place) {
	if n.Kids[0].Kind == syntax.XSuper {
		w.super(n.Kids[0])
	} else {
		w.bound(n.Kids[0], simple, p.inside())
	}
	w.put(".")
	w.id(n.Text)
}

// super writes what stands nowhere but in front of a member.
func (w *writer) super(n syntax.Node) {
	w.put("super")
	if n.Text != "" {
		w.put("[")
		w.name(n.Text)
		w.put("]")
	}
}

func (w *writer) application(n syntax.Node, p place) {
	p = p.inside()
	args := n.Kids[1:]
	w.bound(n.Kids[0], simple, p)
	if n.Num == 0 && len(args) == 1 && args[0].Kind == syntax.XBlock {
		w.put(" ")
		w.node(args[0], p)
		return
	}
	w.put("(" + using(n.Num, args))
	w.list(", ", func(arg syntax.Node) { w.argument(arg, p) }, args...)
	w.put(")")
}

// argument writes an argument. An assignment to a name would be taken for one with a name.
func (w *writer) argument(n syntax.Node, p place) {
	if n.Kind == syntax.XAssign && n.Text == "=" && n.Kids[0].Kind == syntax.XName {
		w.parentheses(n, p)
		return
	}
	w.node(n, p)
}

func (w *writer) namedArgument(n syntax.Node, p place) {
	w.name(n.Text)
	w.assigned(n.Kids[0], p)
}

func (w *writer) typeArguments(n syntax.Node, p place) {
	w.bound(n.Kids[0], simple, p.inside())
	w.bracketed("[", "]", p, n.Kids[1:]...)
}

func (w *writer) infix(n syntax.Node, p place) {
	left, right := operatorLevel(n.Text), operatorLevel(n.Text)
	if tokens.Right(n.Text) {
		left++
	} else {
		right++
	}
	w.bad = w.bad || kindOf(n.Text) != tokens.Op || tokens.Assigns(n.Text)
	w.operand(n.Kids[0], left, n.Text, p)
	w.put(" ", n.Text, " ")
	w.operand(n.Kids[1], right, n.Text, p)
}

// operand writes an operand of an operator. Operators of one precedence that associate differently need parentheses.
func (w *writer) operand(n syntax.Node, level int, op string, p place) {
	if n.Kind == syntax.XInfix && tokens.Right(n.Text) != tokens.Right(op) && operatorLevel(n.Text) == operatorLevel(op) {
		w.parentheses(n, p)
		return
	}
	w.bound(n, level, p.inside())
}

func (w *writer) prefix(n syntax.Node, p place) {
	w.put(n.Text)
	// Two operators would be read as one.
	w.bound(n.Kids[0], prefixed+1, p.inside())
}

func (w *writer) assignment(n syntax.Node, p place) {
	w.bound(n.Kids[0], operation, p.inside())
	w.put(" ", n.Text)
	if n.Text == "=" {
		w.value(n.Kids[1], p)
		return
	}
	// No indentation begins behind an operator.
	w.bad = w.bad || kindOf(n.Text) != tokens.Op
	w.put(" ")
	w.node(n.Kids[1], p)
}

func (w *writer) number(n syntax.Node, p place) {
	w.put(strconv.FormatInt(n.Num, 10))
	if n.Kind == syntax.XLong {
		w.put("L")
	}
}

func (w *writer) character(n syntax.Node, p place) {
	w.literal(tokens.Token{Kind: tokens.Char, Text: string([]byte{byte(n.Num)})})
}

func (w *writer) characters(n syntax.Node, p place) {
	w.literal(tokens.Token{Kind: tokens.String, Text: n.Text})
}

// word writes an expression of one word, or of two marks.
func (w *writer) word(n syntax.Node, p place) {
	switch n.Kind {
	case syntax.XTrue:
		w.put("true")
	case syntax.XFalse:
		w.put("false")
	case syntax.XNull:
		w.put("null")
	case syntax.XUnit:
		w.put("()")
	case syntax.XThis:
		w.put("this")
	}
}

// interpolated writes an interpolated string, in which no line ends.
func (w *writer) interpolated(n syntax.Node, p place) {
	p = p.inside()
	p.flat = true
	w.name(n.Text)
	w.put("\"")
	w.part(n.Kids[0])
	for i := 1; i < len(n.Kids); i += 2 {
		w.inserted(n.Kids[i], n.Kids[i+1], p)
		w.part(n.Kids[i+1])
	}
	w.put("\"")
}

// part writes the characters between the expressions of an interpolated string.
func (w *writer) part(n syntax.Node) {
	const open, end = "s\"", "\""
	if w.long {
		return
	}
	s, e := tokens.Show([]tokens.Token{{Kind: tokens.Start, Text: "s"}, {Kind: tokens.Part, Text: n.Text}, {Kind: tokens.End}})
	if e != api.OK {
		w.long = true
		return
	}
	w.put(s[len(open) : len(s)-len(end)])
}

// inserted writes an expression in an interpolated string. A name needs braces only if the characters behind it would go on with it.
func (w *writer) inserted(n, behind syntax.Node, p place) {
	if n.Kind == syntax.XName && !beginsInWord(behind.Text) {
		w.put("$")
		w.name(n.Text)
		return
	}
	w.put("${")
	w.node(n, p)
	w.put("}")
}

func beginsInWord(text string) bool {
	return text != "" && inWord(rune(text[0]))
}

func (w *writer) block(n syntax.Node, p place) {
	w.braces("{", (*writer).node, p, n.Kids...)
}

func (w *writer) quote(n syntax.Node, p place) {
	w.code("'{", n.Kids[0], p)
}

func (w *writer) splice(n syntax.Node, p place) {
	w.code("${", n.Kids[0], p)
}

// code writes the statements of a quote or a splice, which are those of a block in every text.
func (w *writer) code(open string, n syntax.Node, p place) {
	w.bad = w.bad || n.Kind != syntax.XBlock
	w.braces(open, (*writer).node, p, n.Kids...)
}

func (w *writer) newObject(n syntax.Node, p place) {
	w.put("new ")
	w.list(" with ", w.at(p.inside()), n.Kids[0].Kids...)
	if n.Kids[1].Kind != syntax.SNone {
		w.region(":", (*writer).node, p, n.Kids[1].Kids...)
	}
}

func (w *writer) typedExpr(n syntax.Node, p place) {
	w.put("(")
	w.node(n.Kids[0], p.inside())
	w.typed(n.Kids[1], p)
	w.put(")")
}

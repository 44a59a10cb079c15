package syntax

import (
	"math"
	"strconv"
	"strings"

	"newel/api"
	"newel/tokens"
)

// maxMany is the greatest number of kids where any number is permitted.
const maxMany = 200

// Check returns the first fault of a tree.
func Check(n Node) api.Fault {
	if Depth(n) > api.MaxNest {
		return api.Fault{Code: api.ErrDepth}
	}
	if Size(n) > api.MaxNodes {
		return api.Fault{Code: api.ErrLimit}
	}
	at := 0
	for m := range nodes(n) {
		if e := checkNode(m); e != api.OK {
			return api.Fault{At: at, Code: e}
		}
		at++
	}
	return api.Fault{}
}

// checkNode returns the first error of a node for itself.
func checkNode(n Node) api.Errno {
	row := strings.Fields(rowOf(n.Kind))
	if len(row) == 0 {
		return api.ErrKind
	}
	text, num, items := row[0], row[1], row[2:]
	switch {
	case !isNamed(text, n.Text):
		return api.ErrName
	case num != "0" && !inRange(num, n.Num):
		return api.ErrRange
	case num == "0" && n.Num != 0 || !isPermitted(text, n.Text):
		return api.ErrInvalid
	case !fits(items, n.Kids) || !keepsRules(n):
		return api.ErrForm
	}
	return api.OK
}

// isNamed reports whether a Text is the name or path that a form asks for, if it asks for one.
func isNamed(form, text string) bool {
	switch form {
	case "name":
		return isLetters(text) || isOperator(text)
	case "letters":
		return isLetters(text)
	case "letters?":
		return text == "" || isLetters(text)
	case "letters_":
		return text == "_" || isLetters(text)
	case "path", "import":
		return isPath(text, form == "import")
	}
	return true
}

// isPermitted reports whether a Text that is no name is one of those that a form permits.
func isPermitted(form, text string) bool {
	switch form {
	case "-":
		return text == ""
	case "prefix":
		return text == "-" || text == "!" || text == "~" || text == "+"
	case "assigns":
		return text == "=" || isOperator(text) && tokens.Assigns(text)
	}
	return true
}

// inRange reports whether a Num is in the range of a form.
func inRange(form string, num int64) bool {
	switch form {
	case "flags":
		const flags = api.Abstract | api.Final | api.Sealed | api.Private | api.Override | api.Volatile | api.Inline
		return num >= 0 && num&^flags == 0
	case "param":
		// A parameter is a val or a var, not both.
		return num >= 0 && num%4 <= 2 && num/4 <= 2
	}
	least, greatest, _ := strings.Cut(form, "..")
	return num >= bound(least, math.MinInt64) && num <= bound(greatest, math.MaxInt64)
}

// bound returns the number of a bound in a form, or otherwise.
func bound(text string, otherwise int64) int64 {
	if i, e := strconv.ParseInt(text, 10, 64); e == nil {
		return i
	}
	return otherwise
}

// fits reports whether kids are those of the items of a row.
func fits(items []string, kids []Node) bool {
	for i, item := range items {
		size := 1
		if repeats(item) {
			size = len(kids) - len(items[i+1:])
		}
		if size < 0 || size > len(kids) || !fitsItem(item, kids[:size]) {
			return false
		}
		kids = kids[size:]
	}
	return len(kids) == 0
}

// repeats reports whether an item stands for any number of kids.
func repeats(item string) bool {
	return strings.ContainsAny(item, "*+")
}

// fitsItem reports whether kids are those of an item.
func fitsItem(item string, kids []Node) bool {
	if !repeats(item) {
		word, isOptional := strings.CutSuffix(item, "?")
		return isOptional && kids[0].Kind == SNone || isOneOf(word, kids[0])
	}
	word, most, _ := strings.Cut(item, "*")
	word, isSome := strings.CutSuffix(word, "+")
	words := strings.Split(word, ",")
	count := len(kids) / len(words)
	if len(kids)%len(words) != 0 || isSome && count == 0 || int64(count) > bound(most, maxMany) {
		return false
	}
	for i, k := range kids {
		if !isOneOf(words[i%len(words)], k) {
			return false
		}
	}
	return true
}

// isOneOf reports whether a node is what one of the words, divided by bars, names.
func isOneOf(words string, n Node) bool {
	for word := range strings.SplitSeq(words, "|") {
		if is(word, n) {
			return true
		}
	}
	return false
}

// is reports whether a node is what a word of a row names.
func is(word string, n Node) bool {
	switch word {
	case "D":
		return isDefinition(n.Kind)
	case "E":
		return isExpression(n.Kind)
	case "P":
		return isPattern(n.Kind)
	case "S":
		return isDefinition(n.Kind) || isExpression(n.Kind)
	case "T":
		return isType(n.Kind)
	case "Literal":
		return isLiteral(n)
	case "Path":
		return isPathTree(n)
	}
	return Name(n.Kind) == word
}

// isLiteral reports whether a node is a literal of a pattern.
func isLiteral(n Node) bool {
	if n.Kind == XPrefix && n.Text == "-" && len(n.Kids) == 1 {
		return n.Kids[0].Kind == XInt || n.Kids[0].Kind == XLong
	}
	return n.Kind >= XInt && n.Kind <= XUnit
}

// isPathTree reports whether a node is a path in a type: XName, XThis, or XSelect of these.
func isPathTree(n Node) bool {
	for n.Kind == XSelect && len(n.Kids) == 1 {
		n = n.Kids[0]
	}
	return n.Kind == XName || n.Kind == XThis
}

// keepsRules reports whether a node whose kids fit keeps the further rules.
func keepsRules(n Node) bool {
	switch n.Kind {
	case SType:
		return n.Kids[4].Kind == SNone || n.Kids[2].Kind == SNone && n.Kids[3].Kind == SNone
	case SExtension:
		return !hasExtension(n.Kids[2:])
	case SParent:
		// Its Num tells `A()`, which has an empty list of arguments, from `A`, which has no list at all.
		return n.Num == 1 || len(n.Kids) == 1
	case XNew:
		return len(n.Kids[0].Kids) > 0
	case XApply:
		return namedLast(n.Kids[1:])
	case XString:
		return len(n.Text) <= api.MaxText
	case PBind:
		return n.Kids[0].Kind != PBind
	case PAlt:
		return !hasKind(n.Kids, PAlt)
	}
	return true
}

// hasExtension reports whether one of the SDefs is an extension method already.
func hasExtension(defs []Node) bool {
	for _, d := range defs {
		if d.Num != 0 {
			return true
		}
	}
	return false
}

// namedLast reports whether no other argument stands behind one with a name.
func namedLast(args []Node) bool {
	named := false
	for _, a := range args {
		if named && a.Kind != XNamed {
			return false
		}
		named = a.Kind == XNamed
	}
	return true
}

func hasKind(list []Node, kind int) bool {
	for _, n := range list {
		if n.Kind == kind {
			return true
		}
	}
	return false
}

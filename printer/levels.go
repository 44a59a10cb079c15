package printer

import (
	"newel/syntax"
	"newel/tokens"
)

// Levels say how tightly nodes bind: a node that binds less tightly than its place asks for stands in parentheses. Levels are compared within expressions, types or patterns only; 0 is that of what stands in parentheses everywhere but in places for anything.

// Levels of expressions. That of an operator is its precedence more than operation.
const (
	anyExpr   = 0
	operation = 1
	prefixed  = 12
	instance  = 13 // a new object, to whose type or body what follows would belong
	simple    = 14
)

// Levels of types.
const (
	anyType = iota
	orType
	andType
	simpleType
)

// Levels of patterns.
const (
	anyPattern = iota
	onePattern // with a type at its end, to which alternatives would belong
	closedPattern
)

// levelOf returns the level of a node.
func levelOf(n syntax.Node) int {
	switch n.Kind {
	case syntax.XLambda, syntax.XIf, syntax.XWhile, syntax.XFor, syntax.XTry, syntax.XThrow, syntax.XReturn, syntax.XAssign:
		return anyExpr
	case syntax.XMatch:
		return operation
	case syntax.XInfix:
		return operatorLevel(n.Text)
	case syntax.XPrefix:
		return prefixed
	case syntax.XNew:
		return instance
	case syntax.TLambda, syntax.TFunction, syntax.TMatch:
		return anyType
	case syntax.TOr:
		return orType
	case syntax.TAnd:
		return andType
	case syntax.PAlt:
		return anyPattern
	}
	if endsInType(n) {
		return onePattern
	}
	return simple
}

// operatorLevel returns the level of an operator.
func operatorLevel(op string) int {
	return operation + tokens.Precedence(op)
}

// endsInType reports whether a pattern has a type at its end.
func endsInType(n syntax.Node) bool {
	return n.Kind == syntax.PTyped || n.Kind == syntax.PBind && n.Kids[0].Kind == syntax.PTyped
}

// takes reports whether an expression would take a keyword behind it for one of its own.
func takes(n syntax.Node, key string) bool {
	for {
		last := len(n.Kids) - 1
		switch n.Kind {
		case syntax.XIf:
			if n.Kids[last].Kind == syntax.SNone {
				if key == "else" {
					return true
				}
				last--
			}
		case syntax.XTry:
			hasCases := len(n.Kids[1].Kids) > 0
			switch {
			case n.Kids[last].Kind != syntax.SNone:
			case key == "finally" || key == "catch" && !hasCases:
				return true
			case hasCases:
				return false
			default:
				last = 0
			}
		case syntax.XWhile, syntax.XFor, syntax.XThrow, syntax.XReturn, syntax.XLambda, syntax.XAssign:
		default:
			return false
		}
		n = n.Kids[last]
	}
}

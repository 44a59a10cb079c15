package desugar

import "newel/syntax"

// isCore reports whether a right tree is a core tree. Literals of patterns are those of other trees, too.
func isCore(n syntax.Node) bool {
	if n.Kind == syntax.PLiteral {
		return true
	}
	if !isCoreNode(n) {
		return false
	}
	for _, k := range n.Kids {
		if !isCore(k) {
			return false
		}
	}
	return true
}

// isCoreNode reports whether a node of a right tree is none of the abbreviations.
func isCoreNode(n syntax.Node) bool {
	switch n.Kind {
	case syntax.SExtension, syntax.SEnumCase, syntax.XInfix, syntax.XPrefix, syntax.XInterp,
		syntax.XFor, syntax.SGenerator, syntax.SBinding, syntax.SGuard:
		return false
	case syntax.SClass:
		return n.Num != enumClass
	case syntax.SLists:
		return misplaced(n.Kids) < 0
	case syntax.SLambdaParam:
		return n.Text != "_"
	case syntax.XAssign:
		return n.Text == "=" && isAssignable(n.Kids[0])
	case syntax.XIf:
		return !isNone(n.Kids[2])
	case syntax.XReturn:
		return !isNone(n.Kids[0])
	case syntax.XBlock:
		return isCoreBlock(n.Kids)
	}
	return true
}

func isCoreBlock(statements []syntax.Node) bool {
	for _, s := range statements {
		if !isStatement(s) {
			return false
		}
	}
	return endsInExpression(statements)
}

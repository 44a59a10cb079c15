package syntax

import "strings"

// A row says what a node of a kind consists of, in words: a form of its Text, a form of its Num, and items for its Kids.
//
// Forms of texts: "-" (none), "name", "letters" (a name of letters), "letters?" (or none), "letters_" (or `_`), "path", "import" (a path that may end with `*`), "bytes", "prefix" and "assigns" (an operator of XPrefix, XAssign).
//
// Forms of numbers: "0", "A..B" (from A to B, or without B to the greatest number), "flags" (of SMods) and "param" (of SParam).
//
// Items: a name of a kind, or "D", "E", "P", "S", "T" (a definition, an expression, a pattern, a statement, a type), "Literal" (of PLiteral), "Path" (of TSelect); "a|b" is one of both. "a?" is a or SNone, "a*" any number of a, "a*4" at most four, "a+" at least one, "a,b*" any number of pairs. One item of a row at most stands for any number of kids.

// rowOf returns the row of a kind, or "" of an unknown one.
func rowOf(kind int) string {
	switch {
	case kind < SNone || kind >= Kinds:
		return ""
	case kind < TName:
		return definitionRow(kind)
	case kind < XName:
		return typeRow(kind)
	case kind < PWild:
		return expressionRow(kind)
	}
	return patternRow(kind)
}

// definitionRow returns the row of a definition or a part of one.
func definitionRow(kind int) string {
	return [Kinds]string{
		SNone:      "- 0",
		SUnit:      "- 0 D*",
		SImport:    "import 0",
		SClass:     "name 0..5 SMods SNames SLists SParents SBody?",
		SDef:       "name 0..1 SMods SNames SLists T? E?",
		SVal:       "letters 0..2 SMods T? E?",
		SType:      "letters 0 SMods SNames T? T? T?",
		SGiven:     "letters? 0 SMods SNames SLists T E",
		SExtension: "- 0 SNames SParam SDef+",
		SEnumCase:  "letters 0 SNames SLists SParents",
		SMods:      "- flags",
		SNames:     "- 0 STParam*",
		STParam:    "letters -1..1 T? T? SNone*",
		SLists:     "- 0 SParams*4",
		SParams:    "- 0..1 SParam*",
		SParam:     "letters param SMods T E?",
		SParents:   "- 0 SParent*",
		SParent:    "- 0..1 T E*",
		SBody:      "- 0 S*",
	}[kind]
}

// typeRow returns the row of a type or a part of one.
func typeRow(kind int) string {
	return [Kinds]string{
		TName:     "letters 0",
		TSelect:   "letters 0 Path",
		TApply:    "- 0 T T+",
		TFunction: "- 0 T* T",
		TAnd:      "- 0 T T",
		TOr:       "- 0 T T",
		TSingle:   "- 0 Path",
		TWild:     "- 0 T? T?",
		TLambda:   "- 0 SNames T",
		TMatch:    "- 0 T TCase+",
		TCase:     "- 0 T T",
	}[kind]
}

// expressionRow returns the row of an expression or a part of one.
func expressionRow(kind int) string {
	return [Kinds]string{
		XName:        "name 0",
		XSelect:      "name 0 E",
		XApply:       "- 0..1 E E|XNamed*",
		XNamed:       "letters 0 E",
		XTypes:       "- 0 E T+",
		XInfix:       "name 0 E E",
		XPrefix:      "prefix 0 E",
		XAssign:      "assigns 0 E E",
		XInt:         "- 0..2147483647",
		XLong:        "- 0..",
		XChar:        "- 0..255",
		XString:      "bytes 0",
		XTrue:        "- 0",
		XFalse:       "- 0",
		XNull:        "- 0",
		XUnit:        "- 0",
		XThis:        "- 0",
		XSuper:       "letters? 0",
		XInterp:      "letters 0 XString E,XString*",
		XIf:          "- 0 E E E?",
		XWhile:       "- 0 E E",
		XFor:         "- 0..1 SGenerator SGenerator|SBinding|SGuard* E",
		SGenerator:   "- 0 P E",
		SBinding:     "- 0 P E",
		SGuard:       "- 0 E",
		XMatch:       "- 0 E SCase+",
		SCase:        "- 0 P E? E",
		XTry:         "- 0 E SCases E?",
		SCases:       "- 0 SCase*",
		XThrow:       "- 0 E",
		XReturn:      "- 0 E?",
		XLambda:      "- 0 SLambdaParam* E",
		SLambdaParam: "letters_ 0 T?",
		XBlock:       "- 0 S*",
		XNew:         "- 0 SParents SBody?",
		XTyped:       "- 0 E T",
		XQuote:       "- 0 E",
		XSplice:      "- 0 E",
	}[kind]
}

// patternRow returns the row of a pattern.
func patternRow(kind int) string {
	return [Kinds]string{
		PWild:    "- 0",
		PBind:    "letters 0 P",
		PTyped:   "letters_ 0 T",
		PLiteral: "- 0 Literal",
		PStable:  "path 0",
		PApply:   "path 0 P*",
		PAlt:     "- 0 P P+",
	}[kind]
}

// names has the names of the kinds.
var names = [Kinds]string{
	"SNone", "SUnit", "SImport", "SClass", "SDef", "SVal", "SType", "SGiven", "SExtension", "SEnumCase",
	"SMods", "SNames", "STParam", "SLists", "SParams", "SParam", "SParents", "SParent", "SBody",
	"TName", "TSelect", "TApply", "TFunction", "TAnd", "TOr", "TSingle", "TWild", "TLambda", "TMatch", "TCase",
	"XName", "XSelect", "XApply", "XNamed", "XTypes", "XInfix", "XPrefix", "XAssign",
	"XInt", "XLong", "XChar", "XString", "XTrue", "XFalse", "XNull", "XUnit", "XThis", "XSuper", "XInterp",
	"XIf", "XWhile", "XFor", "SGenerator", "SBinding", "SGuard", "XMatch", "SCase", "XTry", "SCases",
	"XThrow", "XReturn", "XLambda", "SLambdaParam", "XBlock", "XNew", "XTyped", "XQuote", "XSplice",
	"PWild", "PBind", "PTyped", "PLiteral", "PStable", "PApply", "PAlt",
}

// Name returns the name of a kind, or "" of an unknown one.
func Name(kind int) string {
	if kind < 0 || kind >= Kinds {
		return ""
	}
	return names[kind]
}

// isDefinition reports whether a kind is one of definitions. A case of an enum is one: it stands among the statements of a body.
func isDefinition(kind int) bool {
	return kind >= SImport && kind <= SEnumCase
}

// isType reports whether a kind is one of types.
func isType(kind int) bool {
	return kind >= TName && kind <= TMatch
}

// isExpression reports whether a kind is one of expressions. Parts of expressions have other names than these, but for XNamed, an argument.
func isExpression(kind int) bool {
	return kind != XNamed && strings.HasPrefix(Name(kind), "X")
}

// isPattern reports whether a kind is one of patterns.
func isPattern(kind int) bool {
	return kind >= PWild && kind <= PAlt
}

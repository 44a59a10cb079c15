package tokens

// Keyword reports whether a text is a keyword.
func Keyword(s string) bool {
	switch s {
	case "abstract", "case", "catch", "class", "def", "do", "else", "enum", "extends", "extension",
		"false", "final", "finally", "for", "given", "if", "import", "inline", "lazy", "match",
		"new", "null", "object", "override", "private", "return", "sealed", "super", "then", "this",
		"throw", "trait", "true", "try", "type", "using", "val", "var", "volatile", "while",
		"with", "yield":
		return true
	}
	return false
}

// Precedence returns the precedence of an operator or name.
func Precedence(op string) int {
	if op == "" {
		return -1
	}
	if Assigns(op) {
		return 0
	}
	switch op[0] {
	case '|':
		return 2
	case '^':
		return 3
	case '&':
		return 4
	case '=', '!':
		return 5
	case '<', '>':
		return 6
	case ':':
		return 7
	case '+', '-':
		return 8
	case '*', '/', '%':
		return 9
	case '~', '?':
		return 10
	}
	if classOf(op[0]) == letter {
		return 1
	}
	return -1
}

// Right reports whether an operator associates to the right.
func Right(op string) bool {
	return op != "" && op[len(op)-1] == ':'
}

// Assigns reports whether an operator is an assignment operator.
func Assigns(op string) bool {
	n := len(op)
	if n < 2 || op[n-1] != '=' || op[0] == '=' {
		return false
	}
	return op != "<=" && op != ">=" && op != "!="
}

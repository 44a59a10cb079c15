package syntax

import (
	"strings"

	"newel/api"
)

// maxPath is the greatest number of names of a path.
const maxPath = 8

// isLetters reports whether a text is a name of letters.
func isLetters(text string) bool {
	if text == "" || text == "_" || len(text) > api.MaxName || isDigit(text[0]) {
		return false
	}
	for i := range len(text) {
		if !isLetter(text[i]) && text[i] != '_' && !isDigit(text[i]) {
			return false
		}
	}
	return true
}

// isOperator reports whether a text is a name of operator bytes.
func isOperator(text string) bool {
	if text == "" || len(text) > api.MaxName {
		return false
	}
	for i := range len(text) {
		if strings.IndexByte("+-*/%<>=!&|^~:?", text[i]) < 0 {
			return false
		}
	}
	return true
}

// isPath reports whether a text is a path. With a star the last name may be `*`.
func isPath(text string, star bool) bool {
	if len(text) > maxPath*(api.MaxName+1) { // longer than any path: it need not be divided
		return false
	}
	names := strings.Split(text, ".")
	last := len(names) - 1
	if star && names[last] == "*" {
		names[last] = "a"
	}
	for _, name := range names {
		if !isLetters(name) {
			return false
		}
	}
	return len(names) <= maxPath
}

func isLetter(b byte) bool {
	return b >= 'a' && b <= 'z' || b >= 'A' && b <= 'Z'
}

func isDigit(b byte) bool {
	return b >= '0' && b <= '9'
}

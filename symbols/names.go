package symbols

import (
	"slices"
	"strings"

	"newel/api"
)

// IsName reports whether a string is a name.
func IsName(s string) bool {
	return s != "" && len(s) <= api.MaxName && (isIdentifier(s) || isOperator(s))
}

func isIdentifier(s string) bool {
	for i := range len(s) {
		isDigit := s[i] >= '0' && s[i] <= '9'
		if isDigit && i == 0 || !isDigit && !isLetter(s[i]) {
			return false
		}
	}
	return true
}

// isLetter reports whether a byte stands in identifiers, and may be the first one.
func isLetter(b byte) bool {
	return b >= 'a' && b <= 'z' || b >= 'A' && b <= 'Z' || b == '_' || b == '$'
}

func isOperator(s string) bool {
	return strings.Trim(s, "+-*/%<>=!&|^~:?") == ""
}

// FullName returns the names of the classes around a class and its own one.
func FullName(p api.Program, class int) (string, api.Errno) {
	if !exists(p.Classes, class) {
		return "", api.ErrRange
	}
	names := []string{nameOf(p.Classes[class])}
	for c := range around(p, class) {
		names = append(names, nameOf(p.Classes[c]))
	}
	if len(names) > len(p.Classes) {
		return "", api.ErrCycle
	}
	slices.Reverse(names)
	return strings.Join(names, "."), api.OK
}

// nameOf returns the name of a class as it stands in full names.
func nameOf(c api.Class) string {
	if c.Kind == api.IsObject {
		return c.Name + "#"
	}
	return c.Name
}

// Package tokens is the lexer: it divides a text into tokens, and finds out, from line ends and indentation, where statements end and where blocks begin and end. See shared/doc/01-tokens.md.
package tokens

import "newel/api"

// Kinds of tokens.
const (
	Name = iota
	Key
	Op
	Mark
	Int
	Long
	Char
	String
	Start
	Part
	End
	Newline
	Indent
	Outdent
	Stop
	Kinds
)

// Token is a token.
type Token struct {
	Kind          int
	Text          string
	At, Line, Col int
}

// Scan returns the tokens of a text, with layout.
func Scan(text string) ([]Token, api.Fault) {
	l, fault := Raw(text)
	if fault.Code != api.OK {
		return nil, fault
	}
	return Layout(l)
}

// fail leaves the function at hand: the exported function around it recovers the fault.
func fail(at int, code api.Errno) {
	panic(api.Fault{At: at, Code: code})
}

// closing returns the mark that closes the bracket that a mark opens, or "" of other texts.
func closing(mark string) string {
	switch mark {
	case "(":
		return ")"
	case "[":
		return "]"
	case "{", "'{", "${":
		return "}"
	}
	return ""
}

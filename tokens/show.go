package tokens

import (
	"strings"

	"newel/api"
)

// Show returns a text of tokens.
func Show(l []Token) (string, api.Errno) {
	var s strings.Builder
	u := Start // the kind of the token in front of t; there is no blank at the beginning either
	for _, t := range l {
		if u != Start && u != Part && t.Kind != Part {
			s.WriteByte(' ')
		}
		s.WriteString(canonical(u, t))
		if s.Len() > api.MaxText { // Raw takes no such text
			return "", api.ErrForm
		}
		u = t.Kind
	}
	if !shows(s.String(), l) {
		return "", api.ErrForm
	}
	return s.String(), api.OK
}

// shows reports whether a text has the kinds and texts of these tokens.
func shows(text string, l []Token) bool {
	read, fault := Raw(text)
	if fault.Code != api.OK || len(read) != len(l) {
		return false
	}
	for i, t := range read {
		if t.Kind != l[i].Kind || t.Text != l[i].Text {
			return false
		}
	}
	return true
}

// canonical returns the canonical form of t behind a token of the kind u.
func canonical(u int, t Token) string {
	switch t.Kind {
	case Name, Key:
		if u == Part {
			return "$" + t.Text
		}
	case Long:
		return t.Text + "L"
	case Char:
		return "'" + escaped(t.Text, "'", "{") + "'"
	case String:
		return "\"" + escaped(t.Text, "\"", "") + "\""
	case Start:
		return t.Text + "\""
	case Part:
		return escapedPart(u, t.Text)
	case End:
		return "\""
	}
	return t.Text
}

// escapedPart returns the characters of a Part behind a token of the kind u. A first byte that would go on with the name in front of it is written as a number.
func escapedPart(u int, text string) string {
	if (u == Name || u == Key) && text != "" && inWord(text[0]) {
		return number(text[0]) + escaped(text[1:], "\"$", "")
	}
	return escaped(text, "\"$", "")
}

// escaped returns the characters of a text: the bytes of slashed have a backslash in front of them, those of numbered are written as numbers.
func escaped(text, slashed, numbered string) string {
	var s strings.Builder
	for i := range len(text) {
		switch b := text[i]; {
		case b == '\n':
			s.WriteString("\\n")
		case b == '\t':
			s.WriteString("\\t")
		case b == '\\' || strings.IndexByte(slashed, b) >= 0:
			s.WriteByte('\\')
			s.WriteByte(b)
		case b < 32 || b > 126 || strings.IndexByte(numbered, b) >= 0:
			s.WriteString(number(b))
		default:
			s.WriteByte(b)
		}
	}
	return s.String()
}

// number returns the escape \xHH of a byte.
func number(b byte) string {
	const digits = "0123456789abcdef"
	return "\\x" + digits[b>>4:b>>4+1] + digits[b&15:b&15+1]
}

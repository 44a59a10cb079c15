package syntax

import (
	"strconv"
	"strings"

	"newel/api"
)

// maxForm is the greatest number of bytes of a text form.
const maxForm = 4 * api.MaxText

// Text returns the text form of a tree.
func Text(n Node) (string, api.Errno) {
	if f := Check(n); f.Code != api.OK {
		return "", f.Code
	}
	w := &writer{}
	w.node(n)
	if w.full {
		return "", api.ErrLimit
	}
	return w.text.String(), api.OK
}

// writer writes a text form, as long as it is not too long.
type writer struct {
	text strings.Builder
	full bool
}

// put writes parts of the text.
func (w *writer) put(parts ...string) {
	for _, p := range parts {
		if w.full = w.full || w.text.Len()+len(p) > maxForm; w.full {
			return
		}
		w.text.WriteString(p)
	}
}

func (w *writer) node(n Node) {
	if w.full { // nothing of a text that is too long is needed
		return
	}
	w.put("(", Name(n.Kind))
	if n.Text != "" {
		w.put(" \"", escaped(n.Text), "\"")
	}
	if n.Num != 0 {
		w.put(" ", strconv.FormatInt(n.Num, 10))
	}
	for _, k := range n.Kids {
		w.put(" ")
		w.node(k)
	}
	w.put(")")
}

// escaped returns a text with the escapes of the text form.
func escaped(text string) string {
	var s strings.Builder
	for i := range len(text) {
		switch b := text[i]; {
		case b == '\n':
			s.WriteString("\\n")
		case b == '\t':
			s.WriteString("\\t")
		case b == '\\' || b == '"':
			s.WriteByte('\\')
			s.WriteByte(b)
		case isStrange(b):
			s.WriteString("\\x")
			s.WriteByte(hexDigits[b>>4])
			s.WriteByte(hexDigits[b&15])
		default:
			s.WriteByte(b)
		}
	}
	return s.String()
}

const hexDigits = "0123456789abcdef"

// isStrange reports whether a byte does not stand in texts as it is.
func isStrange(b byte) bool {
	return b < 32 || b > 126
}

package symbols

import (
	"strconv"
	"strings"

	"newel/api"
)

// Text returns the canonical text of the declarations of a program.
func Text(p api.Program) (string, api.Errno) {
	if f := Check(p); f.Code != api.OK {
		return "", f.Code
	}
	w := &writer{p: p}
	for i := range p.Classes {
		w.class(i)
	}
	for _, m := range p.Methods {
		if m.Owner == noOwner {
			w.method("", m)
		}
	}
	if w.text.Len() > api.MaxText {
		return "", api.ErrLimit
	}
	return w.text.String(), api.OK
}

// writer writes the declarations of a program that is right.
type writer struct {
	p    api.Program
	text strings.Builder
}

// line writes words with blanks between them, and a line feed.
func (w *writer) line(words ...string) {
	w.text.WriteString(strings.Join(words, " ") + "\n")
}

// class writes a class and its members.
func (w *writer) class(class int) {
	const indent = "  "
	c := w.p.Classes[class]
	w.line(w.head(class)...)
	for _, i := range c.Fields {
		w.line(indent+"field", w.p.Fields[i].Name, strconv.Itoa(w.p.Fields[i].Flags))
	}
	for _, i := range c.Methods {
		w.method(indent, w.p.Methods[i])
	}
	for _, i := range c.Types {
		w.line(indent+"type", w.p.Types[i].Name)
	}
}

// head returns the words that say what a class is.
func (w *writer) head(class int) []string {
	kinds := [api.ClassKinds]string{api.IsClass: "class", api.IsTrait: "trait", api.IsObject: "object"}
	signs := [...]string{"-", "", "+"}
	c := w.p.Classes[class]
	name, _ := FullName(w.p, class)
	words := []string{kinds[c.Kind], name, strconv.Itoa(c.Flags)}
	for _, i := range c.TParams {
		t := w.p.TParams[i]
		words = append(words, signs[t.Variance-api.Contravariant]+t.Name)
	}
	return words
}

func (w *writer) method(indent string, m api.Method) {
	w.line(indent+"method", m.Name, strconv.Itoa(m.Flags), strconv.Itoa(m.Params))
}

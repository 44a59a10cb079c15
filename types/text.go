package types

import (
	"strconv"
	"strings"

	"newel/api"
	"newel/symbols"
)

// basicNames are the texts of basic types.
var basicNames = [...]string{
	api.TAny:     "Any",
	api.TNothing: "Nothing",
	api.TNull:    "Null",
	api.TUnit:    "Unit",
	api.TBoolean: "Boolean",
	api.TChar:    "Char",
	api.TInt:     "Int",
	api.TLong:    "Long",
	api.TString:  "String",
}

// Text returns the text of a type.
func Text(env api.Env, t api.Type) (string, api.Errno) {
	if e := Check(env, t); e != api.OK {
		return "", e
	}
	names, e := classNames(env.P, t)
	if e != api.OK {
		return "", e
	}
	w := &writer{env: env, names: names}
	w.typ(t)
	if w.text.Len() > api.MaxText {
		return "", api.ErrLimit
	}
	return w.text.String(), api.OK
}

// classNames returns the full names of the classes that a type names.
func classNames(p api.Program, t api.Type) (map[int]string, api.Errno) {
	names := map[int]string{}
	for n := range nodes(t) {
		if n.t.Kind != api.TClass && n.t.Kind != api.TThis || names[n.t.Sym] != "" {
			continue
		}
		name, e := symbols.FullName(p, n.t.Sym)
		if e != api.OK {
			return nil, e
		}
		names[n.t.Sym] = name
	}
	return names, api.OK
}

// writer writes a type that Check accepts.
type writer struct {
	env   api.Env
	names map[int]string // the full names of classes
	text  strings.Builder
}

// write writes some texts, but nothing behind more than the limit.
func (w *writer) write(texts ...string) {
	for _, s := range texts {
		if w.text.Len() <= api.MaxText {
			w.text.WriteString(s)
		}
	}
}

// number writes a mark and a number.
func (w *writer) number(mark string, n int) {
	w.write(mark, strconv.Itoa(n))
}

// list writes types with a text in front, between and behind.
func (w *writer) list(front, between, behind string, list ...api.Type) {
	w.write(front)
	for i, t := range list {
		if i > 0 {
			w.write(between)
		}
		w.typ(t)
	}
	w.write(behind)
}

// typ writes a type.
func (w *writer) typ(t api.Type) {
	switch t.Kind {
	case api.TClass:
		w.write(w.names[t.Sym])
		w.list("[", ", ", "]", t.Args...)
	case api.TParam, api.TMember, api.TThis, api.TLocal, api.TField, api.TBound, api.TVar:
		w.named(t)
	case api.TAnd:
		w.list("(", " & ", ")", t.Args...)
	case api.TOr:
		w.list("(", " | ", ")", t.Args...)
	case api.TFun:
		last := len(t.Args) - 1
		w.list("((", ", ", ") => ", t.Args[:last]...)
		w.list("", "", ")", t.Args[last])
	case api.TArray:
		w.list("Array(", "", ")", t.Args...)
	case api.TByName:
		w.list("(=> ", "", ")", t.Args...)
	case api.TRepeat:
		w.list("(", "", " *)", t.Args...)
	case api.TLambda:
		w.number("{", t.Num)
		w.list(" => ", "", "}", t.Args...)
	case api.TApply:
		w.typ(t.Args[0])
		w.list("(", ", ", ")", t.Args[1:]...)
	case api.TMatch:
		w.list("(", "", " match ", t.Args[0])
		w.cases(t)
	case api.TRefine:
		w.list("(", "", " with "+t.Name, t.Args[0])
		w.list(" >: ", " <: ", ")", t.Args[1:]...)
	case api.TWild:
		w.list("(? >: ", " <: ", ")", t.Args...)
	default:
		w.write(basicNames[t.Kind])
	}
}

// named writes a type that is a symbol, behind its prefix if it has one.
func (w *writer) named(t api.Type) {
	if len(t.Args) > 0 {
		w.list("", "", ".", t.Args...)
	}
	switch t.Kind {
	case api.TParam:
		w.number(w.env.P.TParams[t.Sym].Name+"'", t.Sym)
	case api.TMember:
		w.number(w.env.P.Types[t.Sym].Name+"'", t.Sym)
	case api.TThis:
		w.write("this(", w.names[t.Sym], ")")
	case api.TLocal:
		w.number(w.env.Locals[t.Sym].Name+"@", t.Sym)
	case api.TField:
		w.number(w.env.P.Fields[t.Sym].Name+"@", t.Sym)
	case api.TBound:
		w.number("#", t.Num)
		w.number("^", t.Sym)
	case api.TVar:
		w.number("?", t.Num)
	}
}

// cases writes the cases of a TMatch behind its scrutinee.
func (w *writer) cases(t api.Type) {
	w.number("", t.Num)
	for i := 1; i < len(t.Args); i += 2 {
		w.list(" {", " => ", "}", t.Args[i:i+2]...)
	}
	w.write(")")
}

package types

import (
	"slices"

	"newel/api"
	"newel/symbols"
)

// CheckAll returns the first fault of a program and of the types in its tables.
func CheckAll(p api.Program) symbols.Fault {
	if f := symbols.Check(p); f.Code != api.OK {
		return f
	}
	parts := []struct {
		part, size int
		check      func(p api.Program, index int) api.Errno
	}{
		{symbols.PClass, len(p.Classes), checkParents},
		{symbols.PField, len(p.Fields), checkField},
		{symbols.PTParam, len(p.TParams), checkTypeParam},
		{symbols.PTypeMember, len(p.Types), checkTypeMember},
		{symbols.PMethod, len(p.Methods), checkMethod},
	}
	for _, part := range parts {
		for i := range part.size {
			if e := part.check(p, i); e != api.OK {
				return symbols.Fault{Part: part.part, Index: i, Code: e}
			}
		}
	}
	return symbols.Fault{}
}

// checkParents returns the error of the parents of a class.
func checkParents(p api.Program, class int) api.Errno {
	s := scopeOf(p, class)
	for _, t := range p.Classes[class].Parents {
		if e := Check(s.env, t); e != api.OK {
			return e
		}
		isWild := func(arg api.Type) bool { return arg.Kind == api.TWild }
		if slices.ContainsFunc(t.Args, isWild) || !s.holds(t) || namesThis(t, class) {
			return api.ErrInvalid
		}
	}
	return api.OK
}

// namesThis reports whether TThis of a class is a node of a type.
func namesThis(t api.Type, class int) bool {
	for n := range nodes(t) {
		if n.t.Kind == api.TThis && n.t.Sym == class {
			return true
		}
	}
	return false
}

// checkField returns the error of the type of a field.
func checkField(p api.Program, field int) api.Errno {
	f := p.Fields[field]
	return scopeOf(p, f.Owner).check(f.Type, 0)
}

// checkTypeParam returns the error of the bounds of a type parameter.
func checkTypeParam(p api.Program, param int) api.Errno {
	t := p.TParams[param]
	if t.Method != none {
		return scopeOfMethod(p, t.Method).checkBounds(t.Lo, t.Hi, t.Arity)
	}
	return scopeOf(p, t.Class).checkBounds(t.Lo, t.Hi, t.Arity)
}

// checkTypeMember returns the error of the bounds of a type member.
func checkTypeMember(p api.Program, member int) api.Errno {
	t := p.Types[member]
	return scopeOf(p, t.Owner).checkBounds(t.Lo, t.Hi, t.Arity)
}

// checkMethod returns the error of the types of the locals of a method and of its result.
func checkMethod(p api.Program, method int) api.Errno {
	m := p.Methods[method]
	outside, inside := scopesIn(p, method)
	repeated := repeatedParam(m)
	for i, l := range m.Locals {
		e := api.OK
		switch {
		case i >= m.Params:
			e = inside.check(l.Type, 0)
		case i == repeated:
			e = outside.check(l.Type, 0, api.TByName, api.TRepeat)
		default:
			e = outside.check(l.Type, 0, api.TByName)
		}
		if e != api.OK {
			return e
		}
	}
	return outside.check(m.Result, 0)
}

// repeatedParam returns the parameter of a method that may be a TRepeat, or -1.
func repeatedParam(m api.Method) int {
	for i := m.Params - 1; i >= 0; i-- {
		if !has(m.Locals[i].Flags, api.Using) {
			return i
		}
	}
	return none
}

// scope is what the types at a place of a program are looked at in, and what they may name there.
type scope struct {
	env      api.Env
	paramsOf map[int]bool // the classes whose type parameters they may name
	this     map[int]bool // the classes of which they may name TThis
	method   int          // the method whose type parameters they may name
	locals   int          // how many locals they may name
}

// scopeOf returns the scope of a class (-1: of no class) of a program that symbols.Check accepts.
func scopeOf(p api.Program, class int) scope {
	s := scope{env: api.Env{P: p}, paramsOf: map[int]bool{}, this: map[int]bool{}, method: none}
	if class != none {
		s.paramsOf[class], s.this[class] = true, true
	}
	for _, outer := range around(p, class) {
		if p.Classes[outer].Kind == api.IsObject {
			s.this[outer] = true
		}
	}
	return s
}

// scopeOfMethod returns the scope of the type parameters of a method.
func scopeOfMethod(p api.Program, method int) scope {
	s := scopeOf(p, p.Methods[method].Owner)
	s.method = method
	return s
}

// scopesIn returns the scopes of a method for its parameters and result, and for its other locals.
func scopesIn(p api.Program, method int) (outside, inside scope) {
	m := p.Methods[method]
	outside, inside = scopeOfMethod(p, method), scopeOfMethod(p, method)
	outside.env.Locals, outside.locals = m.Locals, m.Params
	inside.env.Locals, inside.locals = m.Locals, len(m.Locals)
	for _, outer := range around(p, m.Owner) {
		inside.paramsOf[outer], inside.this[outer] = true, true
	}
	return outside, inside
}

// around returns the classes around a class (-1: no class), which are finitely many, as symbols.Check accepts the program.
func around(p api.Program, class int) []int {
	var list []int
	for class != none {
		class = p.Classes[class].Owner
		if class != none {
			list = append(list, class)
		}
	}
	return list
}

// holds reports whether a type that Check accepts names only what is in a scope.
func (s scope) holds(t api.Type) bool {
	for n := range nodes(t) {
		if !s.holdsNode(n.t) {
			return false
		}
	}
	return true
}

// holdsNode reports whether a node for itself names only what is in a scope.
func (s scope) holdsNode(t api.Type) bool {
	switch t.Kind {
	case api.TParam:
		param := s.env.P.TParams[t.Sym]
		if param.Method != none {
			return param.Method == s.method
		}
		return s.paramsOf[param.Class]
	case api.TThis:
		return s.this[t.Sym]
	case api.TLocal:
		return t.Sym < s.locals
	case api.TVar:
		return false
	}
	return true
}

// check returns the error of a type that must have an arity, and may be a TByName or TRepeat only if this kind is permitted.
func (s scope) check(t api.Type, arity int, permitted ...int) api.Errno {
	e := Check(s.env, t)
	isSpecial := t.Kind == api.TByName || t.Kind == api.TRepeat
	switch {
	case e != api.OK:
		return e
	case Arity(s.env, t) != arity:
		return api.ErrArity
	case isSpecial && !slices.Contains(permitted, t.Kind) || !s.holds(t):
		return api.ErrInvalid
	}
	return api.OK
}

// checkBounds returns the error of the bounds of something with an arity. TNothing and TAny are bounds whatever it is.
func (s scope) checkBounds(lo, hi api.Type, arity int) api.Errno {
	least, most := arity, arity
	if lo.Kind == api.TNothing {
		least = 0
	}
	if hi.Kind == api.TAny {
		most = 0
	}
	if e := s.check(lo, least); e != api.OK {
		return e
	}
	return s.check(hi, most)
}

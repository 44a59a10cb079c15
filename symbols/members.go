package symbols

import (
	"slices"

	"newel/api"
)

// The flags that members and locals may have.
const (
	methodFlags = api.Abstract | api.Final | api.Private | api.Override | api.Given | api.Inline | api.Extension | api.Synthetic
	fieldFlags  = api.Final | api.Private | api.Override | api.Var | api.Lazy | api.Volatile | api.Given | api.Synthetic
	localFlags  = api.Var | api.Lazy | api.Given | api.Using | api.Synthetic
	paramFlags  = api.Using | api.Synthetic
)

// checkMethod returns the error of a method.
func checkMethod(p api.Program, method int) api.Errno {
	m := p.Methods[method]
	switch {
	case !IsName(m.Name):
		return api.ErrName
	case !keepsMethodFlags(m):
		return api.ErrInvalid
	case m.Owner != noOwner && !exists(p.Classes, m.Owner) || !existAll(p.TParams, m.TParams):
		return api.ErrRange
	case hasTwice(m.TParams):
		return api.ErrTwice
	case len(m.TParams) > api.MaxArgs || m.Params < 0 || m.Params > api.MaxArgs || m.Params > len(m.Locals):
		return api.ErrArity
	case len(m.Locals) > api.MaxLocals:
		return api.ErrLimit
	}
	if e := checkLocals(m); e != api.OK {
		return e
	}
	for _, i := range m.TParams {
		if p.TParams[i].Method != method || p.TParams[i].Class != noOwner {
			return api.ErrInvalid
		}
	}
	return checkOwner(p, method)
}

// keepsMethodFlags reports whether a method may have its flags.
func keepsMethodFlags(m api.Method) bool {
	isAbstract := has(m.Flags, api.Abstract)
	return m.Flags&^methodFlags == 0 && isAbstract == (m.Body == nil) && !(isAbstract && has(m.Flags, api.Final|api.Private|api.Inline))
}

// checkLocals returns the error of the locals of a method.
func checkLocals(m api.Method) api.Errno {
	for i, l := range m.Locals {
		if !IsName(l.Name) {
			return api.ErrName
		}
		if i < m.Params && l.Flags&^paramFlags != 0 || l.Flags&^localFlags != 0 || has(l.Flags, api.Lazy) && has(l.Flags, api.Var) {
			return api.ErrInvalid
		}
	}
	seen := map[string]bool{}
	for _, l := range m.Locals[:m.Params] {
		if seen[l.Name] {
			return api.ErrTwice
		}
		seen[l.Name] = true
	}
	return api.OK
}

// checkOwner returns the error of a method at its place: in its class, or in none.
func checkOwner(p api.Program, method int) api.Errno {
	m := p.Methods[method]
	owner := api.Class{}
	if m.Owner != noOwner {
		owner = p.Classes[m.Owner]
		if !slices.Contains(owner.Methods, method) {
			return api.ErrNoEntry
		}
	}
	if has(m.Flags, api.Abstract) && owner.Kind != api.IsTrait && !has(owner.Flags, api.Abstract) {
		return api.ErrAbstract
	}
	if has(m.Flags, api.Override) && m.Owner == noOwner {
		return api.ErrInvalid
	}
	return api.OK
}

// checkField returns the error of a field.
func checkField(p api.Program, field int) api.Errno {
	f := p.Fields[field]
	isVar, isLazy := has(f.Flags, api.Var), has(f.Flags, api.Lazy)
	switch {
	case !IsName(f.Name):
		return api.ErrName
	case f.Flags&^fieldFlags != 0 || isLazy && isVar || has(f.Flags, api.Volatile) && !isVar:
		return api.ErrInvalid
	case !exists(p.Classes, f.Owner):
		return api.ErrRange
	case !slices.Contains(p.Classes[f.Owner].Fields, field):
		return api.ErrNoEntry
	case isLazy && slices.Contains(p.Classes[f.Owner].Params, field):
		return api.ErrInvalid
	}
	return api.OK
}

// checkTypeParam returns the error of a type parameter.
func checkTypeParam(p api.Program, param int) api.Errno {
	t := p.TParams[param]
	isOfClass := exists(p.Classes, t.Class) && t.Method == noOwner
	isOfMethod := exists(p.Methods, t.Method) && t.Class == noOwner
	switch {
	case !IsName(t.Name):
		return api.ErrName
	case t.Variance < api.Contravariant || t.Variance > api.Covariant || !isArity(t.Arity), !isOfClass && !isOfMethod:
		return api.ErrRange
	case !slices.Contains(listWith(p, t), param):
		return api.ErrNoEntry
	case isOfMethod && t.Variance != api.Invariant:
		return api.ErrVariance
	}
	return api.OK
}

// listWith returns the list of the class or method to which a type parameter belongs.
func listWith(p api.Program, t api.TypeParam) []int {
	if t.Class == noOwner {
		return p.Methods[t.Method].TParams
	}
	return p.Classes[t.Class].TParams
}

func isArity(arity int) bool {
	return arity >= 0 && arity <= api.MaxArgs
}

// checkTypeMember returns the error of a type member.
func checkTypeMember(p api.Program, member int) api.Errno {
	t := p.Types[member]
	switch {
	case !IsName(t.Name):
		return api.ErrName
	case !exists(p.Classes, t.Owner) || !isArity(t.Arity):
		return api.ErrRange
	case !slices.Contains(p.Classes[t.Owner].Types, member):
		return api.ErrNoEntry
	}
	return api.OK
}

// twice returns ErrTwice if something is there already.
func twice(isThere bool) api.Errno {
	if isThere {
		return api.ErrTwice
	}
	return api.OK
}

// checkFieldName returns the error of the name of a field.
func checkFieldName(p api.Program, field int) api.Errno {
	f := p.Fields[field]
	return twice(slices.ContainsFunc(p.Fields[:field], func(g api.Field) bool { return g.Owner == f.Owner && g.Name == f.Name }))
}

// checkMethodName returns the error of the name of a method.
func checkMethodName(p api.Program, method int) api.Errno {
	m := p.Methods[method]
	return twice(slices.ContainsFunc(p.Fields, func(f api.Field) bool { return f.Owner == m.Owner && f.Name == m.Name }))
}

// checkTypeMemberName returns the error of the name of a type member.
func checkTypeMemberName(p api.Program, member int) api.Errno {
	t := p.Types[member]
	return twice(slices.ContainsFunc(p.Types[:member], func(u api.TypeMember) bool { return u.Owner == t.Owner && u.Name == t.Name }))
}

// checkTypeParamName returns the error of the name of a type parameter.
func checkTypeParamName(p api.Program, param int) api.Errno {
	t := p.TParams[param]
	return twice(slices.ContainsFunc(p.TParams[:param], func(u api.TypeParam) bool {
		return u.Class == t.Class && u.Method == t.Method && u.Name == t.Name
	}))
}

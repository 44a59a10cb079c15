package types

import (
	"slices"

	"newel/api"
	"newel/symbols"
)

// mostVars is the greatest number of a type variable.
const mostVars = 99

// Check returns the first error of a type.
func Check(env api.Env, t api.Type) api.Errno {
	if e := limits(t); e != api.OK {
		return e
	}
	for n := range nodes(t) {
		if e := checkNode(env, n); e != api.OK {
			return e
		}
	}
	return api.OK
}

// checkNode returns the first error of a node for itself.
func checkNode(env api.Env, n node) api.Errno {
	switch {
	case !isKind(n.t.Kind):
		return api.ErrKind
	case !keepsForm(n.t):
		return api.ErrForm
	case !existsSymbol(env, n.t) || !keepsRange(n):
		return api.ErrRange
	case !keepsArities(env, n.t):
		return api.ErrArity
	case !isPermitted(env, n):
		return api.ErrInvalid
	}
	return api.OK
}

// keepsForm reports whether a type has no fields but those of its kind, and as many Args as it.
func keepsForm(t api.Type) bool {
	s := shapes[t.Kind]
	return (s.sym || t.Sym == 0) && (s.name || t.Name == "") && (s.num || t.Num == 0) && keepsNumber(t)
}

// existsSymbol reports whether what a type names exists.
func existsSymbol(env api.Env, t api.Type) bool {
	switch t.Kind {
	case api.TClass:
		isMissing := func(param int) bool { return !exists(env.P.TParams, param) }
		return exists(env.P.Classes, t.Sym) && !slices.ContainsFunc(env.P.Classes[t.Sym].TParams, isMissing)
	case api.TThis:
		return exists(env.P.Classes, t.Sym)
	case api.TParam:
		return exists(env.P.TParams, t.Sym)
	case api.TMember:
		return exists(env.P.Types, t.Sym)
	case api.TLocal:
		return exists(env.Locals, t.Sym)
	case api.TField:
		return exists(env.P.Fields, t.Sym)
	}
	return true
}

// keepsRange reports whether the Num of a node is one that its kind may have there, and a TBound has a binder.
func keepsRange(n node) bool {
	switch n.t.Kind {
	case api.TLambda:
		return n.t.Num >= 1 && n.t.Num <= api.MaxArgs
	case api.TMatch:
		return n.t.Num >= 0 && n.t.Num <= api.MaxArgs
	case api.TVar:
		return n.t.Num >= 0 && n.t.Num <= mostVars
	}
	return !n.isFree() && !n.isOver()
}

// keepsArities reports whether the Args of a type have the arities that they must have.
func keepsArities(env api.Env, t api.Type) bool {
	if t.Kind == api.TClass && len(t.Args) != len(env.P.Classes[t.Sym].TParams) {
		return false
	}
	for i, arg := range t.Args {
		isWild := t.Kind == api.TClass && arg.Kind == api.TWild
		if !isWild && Arity(env, arg) != arityAt(env, t, i) {
			return false
		}
	}
	return true
}

// arityAt returns the arity that an argument of a type must have.
func arityAt(env api.Env, t api.Type, index int) int {
	switch {
	case t.Kind == api.TClass:
		return env.P.TParams[env.P.Classes[t.Sym].TParams[index]].Arity
	case t.Kind == api.TApply && index == 0:
		return len(t.Args) - 1
	}
	return 0
}

// isPermitted reports whether a node may stand where it stands, and have the parts that it has.
func isPermitted(env api.Env, n node) bool {
	const unstable = api.Var | api.Lazy
	switch n.t.Kind {
	case api.TMember:
		return isSingleton(n.t.Args[0])
	case api.TField:
		return isSingleton(n.t.Args[0]) && !has(env.P.Fields[n.t.Sym].Flags, unstable)
	case api.TLocal:
		return !has(env.Locals[n.t.Sym].Flags, unstable)
	case api.TByName:
		return n.level == 1 || isParam(n)
	case api.TRepeat:
		return n.level == 1 || isParam(n) && n.index == len(n.parent.Args)-2
	case api.TWild:
		return n.parent.Kind == api.TClass
	case api.TRefine:
		return symbols.IsName(n.t.Name)
	}
	return true
}

// isParam reports whether a node is a parameter of a TFun.
func isParam(n node) bool {
	return n.parent.Kind == api.TFun && n.index < len(n.parent.Args)-1
}

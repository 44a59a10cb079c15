package types

import "newel/api"

// Subst replaces type parameters by types.
func Subst(t api.Type, params []int, args []api.Type) (api.Type, api.Errno) {
	if e := limitsOf(t, args); e != api.OK {
		return api.Type{}, e
	}
	if len(params) != len(args) {
		return api.Type{}, api.ErrArity
	}
	s := &substitution{params: map[int]api.Type{}}
	for i, param := range params {
		if _, isThere := s.params[param]; isThere {
			return api.Type{}, api.ErrTwice
		}
		s.params[param] = args[i]
	}
	return s.of(t)
}

// Open replaces the variables of a TLambda in its body, which it returns.
func Open(t api.Type, args []api.Type) (api.Type, api.Errno) {
	if e := limitsOf(t, args); e != api.OK {
		return api.Type{}, e
	}
	switch {
	case t.Kind != api.TLambda || len(t.Args) != 1:
		return api.Type{}, api.ErrKind
	case len(args) != t.Num:
		return api.Type{}, api.ErrArity
	}
	return opening(args).of(t.Args[0])
}

// OpenCase replaces the variables of a case of a TMatch in its pattern and its body, which it returns.
func OpenCase(t api.Type, k int, args []api.Type) (pattern, body api.Type, e api.Errno) {
	if e := limitsOf(t, args); e != api.OK {
		return api.Type{}, api.Type{}, e
	}
	switch {
	case t.Kind != api.TMatch:
		return api.Type{}, api.Type{}, api.ErrKind
	case k < 0 || k >= (len(t.Args)-1)/2:
		return api.Type{}, api.Type{}, api.ErrRange
	case len(args) != t.Num:
		return api.Type{}, api.Type{}, api.ErrArity
	}
	pattern, e = opening(args).of(t.Args[1+2*k])
	if e == api.OK {
		body, e = opening(args).of(t.Args[2+2*k])
	}
	if e != api.OK {
		return api.Type{}, api.Type{}, e
	}
	return pattern, body, api.OK
}

// limitsOf returns the error of a type, or of the first of others, that exceeds the limits.
func limitsOf(t api.Type, others []api.Type) api.Errno {
	e := limits(t)
	for i := 0; i < len(others) && e == api.OK; i++ {
		e = limits(others[i])
	}
	return e
}

// substitution says what stands for type parameters, and for the variables of a binder that is taken away.
type substitution struct {
	params map[int]api.Type
	opens  bool // whether there is such a binder around the type
	vars   map[int]api.Type
	size   int // how many nodes have been made
}

// opening returns the substitution that takes a binder away.
func opening(args []api.Type) *substitution {
	s := &substitution{opens: true, vars: map[int]api.Type{}}
	for i, arg := range args {
		s.vars[i] = arg
	}
	return s
}

// of returns a copy of a type with all replacements, if it keeps the limits.
func (s *substitution) of(t api.Type) (api.Type, api.Errno) {
	made := s.replaced(t, 0)
	if e := limits(made); e != api.OK {
		return api.Type{}, e
	}
	return made, api.OK
}

// replaced returns what stands for a type inside of a number of binders.
func (s *substitution) replaced(t api.Type, inside int) api.Type {
	arg, isReplaced := s.params[t.Sym]
	isReplaced = isReplaced && t.Kind == api.TParam
	if t.Kind == api.TBound && s.opens {
		switch {
		case t.Sym == inside:
			arg, isReplaced = s.vars[t.Num]
		case t.Sym > inside:
			t.Sym--
		}
	}
	if isReplaced {
		return s.raised(arg, inside)
	}
	return s.copied(t, inside, s.replaced)
}

// raised returns a copy of an argument for a place inside of a number of binders: a TBound that is free in it keeps its binder.
func (s *substitution) raised(arg api.Type, by int) api.Type {
	var raise func(t api.Type, inside int) api.Type
	raise = func(t api.Type, inside int) api.Type {
		if t.Kind == api.TBound && t.Sym >= inside {
			t.Sym += by
		}
		return s.copied(t, inside, raise)
	}
	return raise(arg, 0)
}

// copied returns a copy of a type inside of a number of binders, with Args that a function makes. It makes no more than are needed to see that they are too many.
func (s *substitution) copied(t api.Type, inside int, part func(t api.Type, inside int) api.Type) api.Type {
	s.size++
	args := t.Args
	t.Args = nil
	for i, arg := range args {
		if s.size > MaxSize {
			break
		}
		within := inside
		if binds(t, i) {
			within++
		}
		t.Args = append(t.Args, part(arg, within))
	}
	return t
}

// copyOf returns a copy of a type that keeps the limits.
func copyOf(t api.Type) api.Type {
	return (&substitution{}).replaced(t, 0)
}

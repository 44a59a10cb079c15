package types

import (
	"slices"

	"newel/api"
)

// mostSteps is how many steps the way to a normal form may have.
const mostSteps = 1000

// Normal returns the normal form of a type.
func Normal(t api.Type) (api.Type, api.Errno) {
	if e := limits(t); e != api.OK {
		return api.Type{}, e
	}
	n := &normalizer{}
	made, e := n.normal(t)
	if e != api.OK {
		return api.Type{}, e
	}
	return copyOf(made), api.OK // as rule 2 puts a part at several places
}

// normalizer counts the steps on the way to a normal form.
type normalizer struct{ steps int }

// step counts a step.
func (n *normalizer) step() api.Errno {
	if n.steps++; n.steps > mostSteps {
		return api.ErrFuel
	}
	return api.OK
}

// normal returns the normal form of a type. Its parts may share memory with it.
func (n *normalizer) normal(t api.Type) (api.Type, api.Errno) {
	args := make([]api.Type, len(t.Args))
	for i, arg := range t.Args {
		part, e := n.normal(arg)
		if e != api.OK {
			return api.Type{}, e
		}
		args[i] = part
	}
	t.Args = args
	made, e := n.rewritten(t)
	if e == api.OK {
		e = limits(made)
	}
	return made, e
}

// rewritten returns the normal form of a type whose Args are normal. Only a TAnd and a TOr may have any number of them, as whether they have too many must not depend on some that stand twice.
func (n *normalizer) rewritten(t api.Type) (api.Type, api.Errno) {
	switch {
	case t.Kind == api.TAnd:
		return n.met(t.Args)
	case t.Kind == api.TOr:
		return joined(t.Args), api.OK
	case !keepsNumber(t):
		return t, api.OK
	case t.Kind == api.TApply:
		return n.applied(t)
	case t.Kind == api.TWild && Equal(t.Args[0], t.Args[1]):
		return t.Args[0], api.OK
	}
	return t, api.OK
}

// applied returns the normal form of a TApply.
func (n *normalizer) applied(t api.Type) (api.Type, api.Errno) {
	function, args := t.Args[0], t.Args[1:]
	if function.Kind != api.TLambda || len(function.Args) != 1 || function.Num != len(args) {
		return t, api.OK
	}
	if e := n.step(); e != api.OK {
		return api.Type{}, e
	}
	made, e := Open(function, args)
	if e != api.OK {
		return api.Type{}, e
	}
	return n.normal(made)
}

// met returns the normal form of a TAnd.
func (n *normalizer) met(args []api.Type) (api.Type, api.Errno) {
	args = flat(api.TAnd, args)
	union := slices.IndexFunc(args, func(t api.Type) bool { return t.Kind == api.TOr })
	if union < 0 {
		return intersection(args), api.OK
	}
	var parts []api.Type
	for _, t := range args[union].Args {
		if e := n.step(); e != api.OK {
			return api.Type{}, e
		}
		with := slices.Clone(args)
		with[union] = t
		part, e := n.met(with)
		if e == api.OK {
			e = limits(part)
		}
		if e != api.OK {
			return api.Type{}, e
		}
		parts = append(parts, part)
	}
	return joined(parts), api.OK
}

// flat returns the Args of a TAnd or TOr (the kind says which), with the Args of nested ones in their places.
func flat(kind int, args []api.Type) []api.Type {
	var list []api.Type
	for _, t := range args {
		if t.Kind == kind {
			list = append(list, flat(kind, t.Args)...)
		} else {
			list = append(list, t)
		}
	}
	return list
}

// intersection returns the normal form of a TAnd of types that are neither TAnd nor TOr.
func intersection(args []api.Type) api.Type {
	if isEmpty(args) {
		return api.Type{Kind: api.TNothing}
	}
	var kept []api.Type
	onlyNull := hasOnlyNull(args)
	for _, t := range args {
		isLeft := t.Kind != api.TAny && !(onlyNull && (t.Kind == api.TNull || isReference(t)))
		if isLeft {
			kept = append(kept, t)
		}
	}
	if onlyNull {
		kept = append(kept, api.Type{Kind: api.TNull})
	}
	return composed(api.TAnd, api.TAny, ordered(kept))
}

// isEmpty reports whether no value belongs to all types: TNothing is one of them, or a group without null meets something else.
func isEmpty(args []api.Type) bool {
	for _, t := range args {
		if t.Kind == api.TNothing {
			return true
		}
		isAlone := isGroup(t) && !isReference(t)
		excludes := func(u api.Type) bool { return u.Kind == api.TNull || isGroup(u) && u.Kind != t.Kind }
		if isAlone && slices.ContainsFunc(args, excludes) {
			return true
		}
	}
	return false
}

// hasOnlyNull reports whether TNull, or types of different reference groups, are among types: these have no other value in common.
func hasOnlyNull(args []api.Type) bool {
	group := api.TNone
	for _, t := range args {
		switch {
		case t.Kind == api.TNull:
			return true
		case isReference(t) && group != api.TNone && group != t.Kind:
			return true
		case isReference(t):
			group = t.Kind
		}
	}
	return false
}

// isReference reports whether null belongs to the group of a type.
func isReference(t api.Type) bool {
	return t.Kind == api.TString || t.Kind == api.TClass || t.Kind == api.TArray || t.Kind == api.TFun
}

// isGroup reports whether a type is of a group: its kind then says of which one.
func isGroup(t api.Type) bool {
	return t.Kind >= api.TUnit && t.Kind <= api.TLong || isReference(t)
}

// joined returns the normal form of a TOr.
func joined(args []api.Type) api.Type {
	args = flat(api.TOr, args)
	if slices.ContainsFunc(args, func(t api.Type) bool { return t.Kind == api.TAny }) {
		return api.Type{Kind: api.TAny}
	}
	args = slices.DeleteFunc(args, func(t api.Type) bool { return t.Kind == api.TNothing })
	return composed(api.TOr, api.TNothing, unabsorbed(ordered(args)))
}

// ordered returns types in increasing order, each once. It changes the list.
func ordered(list []api.Type) []api.Type {
	slices.SortFunc(list, Compare)
	return slices.CompactFunc(list, Equal)
}

// composed returns the TAnd or TOr (the kind says which) of types in increasing order: one alone stands for itself, and for none of them there is a basic type.
func composed(kind, empty int, list []api.Type) api.Type {
	switch len(list) {
	case 0:
		return api.Type{Kind: empty}
	case 1:
		return list[0]
	}
	return api.Type{Kind: kind, Args: list}
}

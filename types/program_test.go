package types

import (
	"slices"
	"testing"

	"newel/api"
	"newel/symbols"
)

// P7.1: CheckAll.

func mustFault(t *testing.T, what string, p api.Program, want symbols.Fault) {
	t.Helper()
	if f := CheckAll(p); f != want {
		t.Errorf("CheckAll of a program with %s = %v; want %v", what, f, want)
	}
}

// TestSymbolsFirst checks that a fault of symbols.Check counts more than any other one.
func TestSymbolsFirst(t *testing.T) {
	p := sample()
	p.Classes[inner].Parents[0].Args[0] = basic(0)
	p.Methods[free].Name = ""
	mustFault(t, "a wrong name behind a wrong type", p, symbols.Fault{Part: symbols.PMethod, Index: free, Code: api.ErrName})
	p = sample()
	p.Fields[mainF].Type = basic(0)
	p.Main = 99
	mustFault(t, "a wrong main method", p, symbols.Fault{Part: symbols.PMain, Index: 99, Code: api.ErrRange})
	mustFault(t, "nothing", api.Program{Main: -1}, symbols.Fault{})
	mustFault(t, "nothing but a wrong main method", api.Program{}, symbols.Fault{Part: symbols.PMain, Code: api.ErrRange})
}

// position is a place for a type in the sample.
type position struct {
	what        string
	part, index int
	put         func(p *api.Program, t api.Type)
}

func (at position) fault(e api.Errno) symbols.Fault {
	if e == api.OK {
		return symbols.Fault{}
	}
	return symbols.Fault{Part: at.part, Index: at.index, Code: e}
}

func ofField(what string, i int) position {
	return position{"the type of a field of " + what, symbols.PField, i, func(p *api.Program, t api.Type) { p.Fields[i].Type = t }}
}

func ofLocal(what string, i, k int) position {
	return position{"the type of " + what, symbols.PMethod, i, func(p *api.Program, t api.Type) { p.Methods[i].Locals[k].Type = t }}
}

func ofResult(what string, i int) position {
	return position{"the result of " + what, symbols.PMethod, i, func(p *api.Program, t api.Type) { p.Methods[i].Result = t }}
}

func ofParam(what string, i int, lo bool) position {
	return position{"a bound of a type parameter of " + what, symbols.PTParam, i, func(p *api.Program, t api.Type) {
		if lo {
			p.TParams[i].Lo = t
		} else {
			p.TParams[i].Hi = t
		}
	}}
}

func ofMember(what string, i int, lo bool) position {
	return position{"a bound of a type member of " + what, symbols.PTypeMember, i, func(p *api.Program, t api.Type) {
		if lo {
			p.Types[i].Lo = t
		} else {
			p.Types[i].Hi = t
		}
	}}
}

// scopes says for places which of all type parameters, singletons of classes, and locals may be named there.
type allowed struct {
	position
	params []int
	this   []int
	locals []int // of those that are neither Var nor Lazy
}

// allPlaces has one place of each sort in a program with two more classes: an inner class and an inner object of a class with type parameters.
func allPlaces() []allowed {
	return []allowed{
		{ofField("an object", mainF), nil, []int{mainObject}, nil},
		{ofField("a class", boxB), []int{boxT}, []int{box}, nil},
		{ofField("a class in objects", deepD), nil, []int{mainObject, nest, deep}, nil},
		{ofField("a class in a class", 5), []int{6}, []int{8}, nil},
		{ofField("a class in an object in a class", 6), nil, []int{9, 10}, nil},
		{ofParam("a class", boxT, true), []int{boxT}, []int{box}, nil},
		{ofParam("a class", boxT, false), []int{boxT}, []int{box}, nil},
		{ofParam("a class with two", pairA, false), []int{pairA}, []int{pair}, nil},
		{ofParam("a class in a class", 6, false), []int{6}, []int{8}, nil},
		{ofParam("a function", freeU, true), []int{freeU}, nil, nil},
		{ofParam("a function", freeU, false), []int{freeU}, nil, nil},
		{ofParam("a method", boxV, false), []int{boxT, boxV}, []int{box}, nil},
		{ofParam("a method of a class in a class", 7, true), []int{6, 7}, []int{8}, nil},
		{ofMember("a class", boxOut, true), []int{boxT}, []int{box}, nil},
		{ofMember("a class", boxOut, false), []int{boxT}, []int{box}, nil},
		{ofMember("a trait in a class", traitOut, false), nil, []int{aTrait}, nil},
		{ofLocal("a parameter of a function", free, x), []int{freeU}, nil, []int{x, op}},
		{ofLocal("a parameter of a function", free, op), []int{freeU}, nil, []int{x, op}},
		{ofLocal("a local of a function", free, y), []int{freeU}, nil, []int{x, op}},
		{ofResult("a function", free), []int{freeU}, nil, []int{x, op}},
		{ofLocal("a parameter of a method", boxM, 0), []int{boxT, boxV}, []int{box}, []int{0, 1}},
		{ofLocal("a local of a method", boxM, 2), []int{boxT, boxV}, []int{box}, []int{0, 1, 2}},
		{ofResult("a method", boxM), []int{boxT, boxV}, []int{box}, []int{0, 1}},
		{ofLocal("a parameter of a method of a class in a class", 2, 0), []int{6, 7}, []int{8}, []int{0}},
		{ofLocal("a local of a method of a class in a class", 2, 1), []int{boxT, 6, 7}, []int{box, 8}, []int{0, 1}},
		{ofResult("a method of a class in a class", 2), []int{6, 7}, []int{8}, []int{0}},
		{ofLocal("a parameter of a method of a class in an object in a class", 3, 0), nil, []int{9, 10}, []int{0}},
		{ofLocal("a local of a method of a class in an object in a class", 3, 1), []int{boxT}, []int{box, 9, 10}, []int{0, 1}},
		{ofLocal("another local of it", 3, 2), []int{boxT}, []int{box, 9, 10}, []int{0, 1}},
	}
}

// largerSample returns the sample with classes in the class Box: 8 with the type parameter 6 and the method 2, and 10 in the object 9 with the method 3.
func largerSample() api.Program {
	p, body := sample(), &api.Tree{}
	p.Classes = append(p.Classes,
		api.Class{Name: "Sub", Owner: box, Parents: []api.Type{anyT}, TParams: []int{6}, Fields: []int{5}, Methods: []int{2}},
		api.Class{Name: "Obj", Kind: api.IsObject, Owner: box, Parents: []api.Type{anyT}},
		api.Class{Name: "Low", Owner: 9, Parents: []api.Type{anyT}, Fields: []int{6}, Methods: []int{3}},
	)
	p.TParams = append(p.TParams,
		api.TypeParam{Name: "S", Class: 8, Method: -1, Lo: nothingT, Hi: anyT},
		api.TypeParam{Name: "W", Class: -1, Method: 2, Lo: nothingT, Hi: anyT},
	)
	p.Fields = append(p.Fields, api.Field{Name: "s", Owner: 8, Type: intT}, api.Field{Name: "l", Owner: 10, Type: intT})
	p.Methods = append(p.Methods,
		api.Method{Name: "n", Owner: 8, TParams: []int{7}, Params: 1, Body: body, Result: intT, Locals: []api.Local{{Name: "a", Type: intT}, {Name: "b", Type: intT}}},
		api.Method{Name: "o", Owner: 10, Params: 1, Body: body, Result: intT, Locals: []api.Local{{Name: "a", Type: intT}, {Name: "b", Type: intT}, {Name: "c", Flags: api.Var, Type: intT}}},
	)
	return p
}

// TestScopes checks for each place which type parameters, singletons and locals can be named.
func TestScopes(t *testing.T) {
	mustFault(t, "inner classes", largerSample(), symbols.Fault{})
	for _, at := range allPlaces() {
		for i, param := range largerSample().TParams {
			p, named := largerSample(), symbol(api.TParam, i)
			if param.Arity > 0 {
				continue
			}
			want := api.ErrInvalid
			if slices.Contains(at.params, i) {
				want = api.OK
			}
			at.put(&p, named)
			mustFault(t, at.what+" that is a type parameter "+param.Name, p, at.fault(want))
			at.put(&p, array(fun(intT, named)))
			mustFault(t, at.what+" with a type parameter "+param.Name+" in it", p, at.fault(want))
		}
		for i, c := range largerSample().Classes {
			p := largerSample()
			want := api.ErrInvalid
			if slices.Contains(at.this, i) {
				want = api.OK
			}
			at.put(&p, this(i))
			mustFault(t, at.what+" that is this of "+c.Name, p, at.fault(want))
			at.put(&p, array(member(boxOut, this(i))))
			mustFault(t, at.what+" with this of "+c.Name+" in it", p, at.fault(want))
		}
		for i := range 5 {
			p := largerSample()
			want := api.ErrRange
			if at.part == symbols.PMethod {
				locals := p.Methods[at.index].Locals
				if i < len(locals) {
					want = api.ErrInvalid
				}
			}
			if slices.Contains(at.locals, i) {
				want = api.OK
			}
			at.put(&p, or(intT, local(i)))
			mustFault(t, at.what+" with the local "+digitsOf(i), p, at.fault(want))
		}
		p := largerSample()
		at.put(&p, variable(0))
		mustFault(t, at.what+" with a type variable", p, at.fault(api.ErrInvalid))
		at.put(&p, class(9))
		mustFault(t, at.what+" with a class that is elsewhere", p, symbols.Fault{})
	}
}

// TestWrongTypes checks for each place the errors of its type, and their order.
func TestWrongTypes(t *testing.T) {
	for _, at := range allPlaces() {
		for _, c := range []struct {
			t api.Type
			e api.Errno
		}{
			{api.Type{}, api.ErrKind},
			{withSym(anyT, 1), api.ErrForm},
			{withSym(nothingT, 1), api.ErrForm},
			{class(99), api.ErrRange},
			{array(param(pairF)), api.ErrArity},
			{array(byName(intT)), api.ErrInvalid},
			{param(pairF), api.ErrArity},
			{param(freeG), api.ErrArity},
			{lambda(1, intT), api.ErrArity},
			{lambda(1, variable(0)), api.ErrArity},
			{lambda(1, class(99)), api.ErrRange},
			{lambda(1, byName(intT)), api.ErrInvalid},
			{wide(MaxSize), api.OK},
			{wide(MaxSize + 1), api.ErrLimit},
			{nested(63, intT), api.OK},
			{nested(64, intT), api.ErrDepth},
			{anyT, api.OK},
			{nothingT, api.OK},
			{wild(intT, intT), api.ErrInvalid},
			{byName(param(pairF)), api.ErrArity},
			{repeat(variable(200)), api.ErrRange},
		} {
			p := largerSample()
			at.put(&p, c.t)
			mustFault(t, at.what+" that is wrong", p, at.fault(c.e))
		}
	}
}

// TestSpecialTypes checks where a TByName or TRepeat may stand.
func TestSpecialTypes(t *testing.T) {
	isParam := func(at allowed) bool {
		switch at.part {
		case symbols.PMethod:
			return slices.Contains([]string{"the type of a parameter of a function", "the type of a parameter of a method", "the type of a parameter of a method of a class in a class", "the type of a parameter of a method of a class in an object in a class"}, at.what)
		}
		return false
	}
	for _, at := range allPlaces() {
		want := api.ErrInvalid
		if isParam(at) {
			want = api.OK
		}
		p := largerSample()
		at.put(&p, byName(intT))
		mustFault(t, at.what+" that is by name", p, at.fault(want))
		at.put(&p, byName(variable(0)))
		mustFault(t, at.what+" that is by name and out of scope", p, at.fault(api.ErrInvalid))
		if !isParam(at) {
			at.put(&p, repeat(intT))
			mustFault(t, at.what+" that is repeated", p, at.fault(api.ErrInvalid))
		}
	}
}

// TestRepeated checks that only the last parameter without Using may be repeated.
func TestRepeated(t *testing.T) {
	for params := range 5 {
		for using := range 32 {
			last := -1
			for i := range params {
				if using>>i&1 == 0 {
					last = i
				}
			}
			for k := range 5 {
				p := sample()
				m := &p.Methods[boxM]
				m.Params, m.Locals = params, nil
				for i := range 5 {
					l := api.Local{Name: string(rune('a' + i)), Type: intT}
					if using>>i&1 == 1 && i < params {
						l.Flags = api.Using
					}
					m.Locals = append(m.Locals, l)
				}
				m.Locals[k].Type = repeat(intT)
				want := symbols.Fault{}
				if k != last {
					want = symbols.Fault{Part: symbols.PMethod, Index: boxM, Code: api.ErrInvalid}
				}
				mustFault(t, "a repeated parameter", p, want)
			}
		}
	}
}

// TestBounds checks the arities of bounds.
func TestBounds(t *testing.T) {
	for _, c := range []struct {
		arity  int
		lo, hi api.Type
		want   api.Errno
	}{
		{0, nothingT, anyT, api.OK},
		{0, intT, stringT, api.OK},
		{0, anyT, nothingT, api.OK},
		{0, lambda(1, intT), anyT, api.ErrArity},
		{0, nothingT, lambda(1, intT), api.ErrArity},
		{1, nothingT, anyT, api.OK},
		{1, lambda(1, intT), lambda(1, intT), api.OK},
		{1, nothingT, lambda(1, bound(0, 0)), api.OK},
		{1, lambda(1, intT), anyT, api.OK},
		{1, anyT, anyT, api.ErrArity},
		{1, nothingT, nothingT, api.ErrArity},
		{1, intT, anyT, api.ErrArity},
		{1, nothingT, intT, api.ErrArity},
		{1, lambda(2, intT), anyT, api.ErrArity},
		{1, nothingT, lambda(2, intT), api.ErrArity},
		{2, lambda(2, intT), lambda(2, anyT), api.OK},
		{12, lambda(12, intT), lambda(12, bound(11, 0)), api.OK},
		{1, lambda(1, variable(0)), basic(0), api.ErrInvalid},
		{1, basic(0), lambda(2, intT), api.ErrKind},
		{1, nothingT, basic(0), api.ErrKind},
		{1, intT, basic(0), api.ErrArity},
		{0, byName(intT), basic(0), api.ErrInvalid},
		{0, nothingT, repeat(intT), api.ErrInvalid},
		{1, byName(intT), anyT, api.ErrArity},
		{0, local(0), anyT, api.ErrRange},
		{0, nothingT, local(0), api.ErrRange},
		{0, withSym(nothingT, 1), anyT, api.ErrForm},
	} {
		for _, i := range []int{pairF, freeG} {
			p := sample()
			p.Classes[deep].Parents[0] = anyT
			p.TParams[i].Arity, p.TParams[i].Lo, p.TParams[i].Hi = c.arity, c.lo, c.hi
			want := symbols.Fault{}
			if c.want != api.OK {
				want = symbols.Fault{Part: symbols.PTParam, Index: i, Code: c.want}
			}
			mustFault(t, "the bounds "+words(c.lo)+" and "+words(c.hi), p, want)
		}
		p := sample()
		p.Types[mainFun].Arity, p.Types[mainFun].Lo, p.Types[mainFun].Hi = c.arity, c.lo, c.hi
		want := symbols.Fault{}
		if c.want != api.OK {
			want = symbols.Fault{Part: symbols.PTypeMember, Index: mainFun, Code: c.want}
		}
		mustFault(t, "the bounds "+words(c.lo)+" and "+words(c.hi), p, want)
	}
}

// TestParents checks the types of parents.
func TestParents(t *testing.T) {
	sub, low := 8, 10
	for _, c := range []struct {
		class  int
		parent api.Type
		want   api.Errno
	}{
		{inner, class(box, intT), api.OK},
		{inner, class(box, this(mainObject)), api.OK},
		{inner, class(box, member(boxOut, this(mainObject))), api.OK},
		{inner, class(box, class(inner)), api.OK},
		{inner, class(box, this(inner)), api.ErrInvalid},
		{inner, class(box, member(boxOut, this(inner))), api.ErrInvalid},
		{inner, class(box, array(fun(intT, this(inner)))), api.ErrInvalid},
		{inner, class(box, this(deep)), api.ErrInvalid},
		{inner, class(box, wild(nothingT, anyT)), api.ErrInvalid},
		{inner, class(box, class(box, wild(nothingT, anyT))), api.OK},
		{inner, class(box, array(wild(nothingT, anyT))), api.ErrInvalid},
		{inner, class(box, param(boxT)), api.ErrInvalid},
		{inner, class(box, param(freeU)), api.ErrInvalid},
		{inner, class(box, variable(0)), api.ErrInvalid},
		{inner, class(box, local(0)), api.ErrRange},
		{inner, class(box, param(pairF)), api.ErrArity},
		{inner, class(box, basic(0)), api.ErrKind},
		{inner, class(box, byName(intT)), api.ErrInvalid},
		{inner, withNum(class(box, intT), 1), api.ErrForm},
		{inner, class(pair, intT, param(pairF)), api.ErrInvalid},
		{inner, class(pair, wild(intT, intT), param(freeG)), api.ErrArity},
		{inner, withSym(anyT, 3), api.ErrForm},
		{deep, class(box, this(mainObject)), api.OK},
		{deep, class(box, this(nest)), api.OK},
		{sub, class(pair, param(6), lambda(1, param(6))), api.OK},
		{sub, class(pair, param(boxT), lambda(1, intT)), api.ErrInvalid},
		{sub, class(pair, intT, lambda(1, this(box))), api.ErrInvalid},
		{sub, class(pair, intT, lambda(1, this(sub))), api.ErrInvalid},
		{low, class(pair, this(9), lambda(1, this(9))), api.OK},
		{low, class(pair, this(9), lambda(1, this(box))), api.ErrInvalid},
	} {
		p := largerSample()
		p.Classes[c.class].Parents = []api.Type{c.parent}
		want := symbols.Fault{}
		if c.want != api.OK {
			want = symbols.Fault{Part: symbols.PClass, Index: c.class, Code: c.want}
		}
		mustFault(t, "a class with the parent "+words(c.parent), p, want)
	}
	p := largerSample()
	p.Classes[inner].Parents = []api.Type{anyT, class(aTrait), class(aTrait)}
	p.Classes[inner].Parents[1].Name = "n"
	p.Classes = append(p.Classes, api.Class{Name: "Q", Kind: api.IsTrait, Owner: -1, TParams: []int{8}, Parents: []api.Type{anyT}})
	p.TParams = append(p.TParams, api.TypeParam{Name: "Q", Class: 11, Method: -1, Lo: nothingT, Hi: anyT})
	p.Classes[inner].Parents[2] = class(11, variable(0))
	mustFault(t, "two wrong parents", p, symbols.Fault{Part: symbols.PClass, Index: inner, Code: api.ErrForm})
	p.Classes[inner].Parents[1].Name = ""
	mustFault(t, "a wrong parent behind others", p, symbols.Fault{Part: symbols.PClass, Index: inner, Code: api.ErrInvalid})
}

// TestParts checks the order of the parts: each one of two faults counts, if it stands in front.
func TestParts(t *testing.T) {
	list := []position{
		{"a parent", symbols.PClass, inner, func(p *api.Program, t api.Type) { p.Classes[inner].Parents[0].Args[0] = t }},
		{"a parent of a class behind it", symbols.PClass, deep, func(p *api.Program, t api.Type) { p.Classes[deep].Parents[0].Args[0] = t }},
		ofField("an object", mainF), ofField("a class", boxB),
		ofParam("a class", boxT, true), ofParam("a class", boxT, false), ofParam("a function", freeU, true),
		ofMember("a class", boxOut, true), ofMember("a class", boxOut, false), ofMember("a trait", traitOut, true),
		ofLocal("a parameter", free, x), ofLocal("another parameter", free, op), ofLocal("a local", free, y), ofResult("a function", free), ofLocal("a parameter", boxM, 0), ofResult("a method", boxM),
	}
	errors := []struct {
		t api.Type
		e api.Errno
	}{{api.Type{}, api.ErrKind}, {variable(0), api.ErrInvalid}}
	for i, a := range list {
		for _, b := range list[i+1:] {
			for k, c := range errors {
				p := sample()
				a.put(&p, c.t)
				b.put(&p, errors[1-k].t)
				mustFault(t, a.what+" and "+b.what+" that are wrong", p, a.fault(c.e))
			}
		}
	}
}

package symbols

import (
	"strconv"
	"testing"

	"newel/api"
)

// P6.1: limits from both sides, all flags, and what is permitted though it looks like a fault.

func TestTables(t *testing.T) {
	names := [...]string{PClass: "classes", PMethod: "methods", PField: "fields", PTParam: "type parameters", PTypeMember: "type members"}
	for part := PClass; part <= PTypeMember; part++ {
		p := sample()
		grow(&p, part, api.MaxTable)
		if part == PTParam { // each one has a method, which would be too many ones
			p = sample()
			grow(&p, part, api.MaxTable-sizes(p)[PMethod])
		}
		mustBe(t, "many "+names[part], p, Fault{})
		p = sample()
		p.Classes[top].Name, p.Main = "", -9
		switch part {
		case PClass:
			p.Classes = append(p.Classes, make([]api.Class, api.MaxTable+1-len(p.Classes))...)
		case PMethod:
			p.Methods = append(p.Methods, make([]api.Method, api.MaxTable+1-len(p.Methods))...)
		case PField:
			p.Fields = append(p.Fields, make([]api.Field, api.MaxTable+1-len(p.Fields))...)
		case PTParam:
			p.TParams = append(p.TParams, make([]api.TypeParam, api.MaxTable+1-len(p.TParams))...)
		case PTypeMember:
			p.Types = append(p.Types, make([]api.TypeMember, api.MaxTable+1-len(p.Types))...)
		}
		mustBe(t, "too many "+names[part], p, Fault{0, 0, api.ErrLimit})
	}
}

// manyTypeParams returns a program whose classes have that many type parameters each.
func manyTypeParams(classes, each int) api.Program {
	p := api.Program{Main: -1}
	for i := range classes {
		c := api.Class{Name: "C" + strconv.Itoa(i), Owner: -1, Parents: []api.Type{anyType()}}
		for range each {
			c.TParams = append(c.TParams, len(p.TParams))
			p.TParams = append(p.TParams, api.TypeParam{Name: "T" + strconv.Itoa(len(p.TParams)), Class: i, Method: -1})
		}
		p.Classes = append(p.Classes, c)
	}
	return p
}

func TestTypeParams(t *testing.T) {
	mustBe(t, "500 type parameters", manyTypeParams(50, 10), Fault{})
	mustBe(t, "classes with the most type parameters", manyTypeParams(3, api.MaxArgs), Fault{})
	mustBe(t, "classes with too many type parameters", manyTypeParams(3, api.MaxArgs+1), Fault{PClass, 0, api.ErrArity})
	p := manyTypeParams(41, api.MaxArgs)
	extra := func(name string) {
		p.Classes[40].TParams = append(p.Classes[40].TParams, len(p.TParams))
		p.TParams = append(p.TParams, api.TypeParam{Name: name, Class: 40, Method: -1})
	}
	p.Classes[40].TParams, p.TParams = p.Classes[40].TParams[:11], p.TParams[:491]
	extra("T")
	mustBe(t, "another class with the most type parameters", p, Fault{})
	extra("T")
	mustBe(t, "another class with too many type parameters", p, Fault{PClass, 40, api.ErrArity})
	for _, n := range []int{api.MaxArgs, api.MaxArgs + 1} {
		p, want := sample(), Fault{}
		for range n - 2 {
			p.Methods[function].TParams = append(p.Methods[function].TParams, len(p.TParams))
			p.TParams = append(p.TParams, api.TypeParam{Name: "T" + strconv.Itoa(len(p.TParams)), Class: -1, Method: function})
		}
		if n > api.MaxArgs {
			want = Fault{PMethod, function, api.ErrArity}
		}
		mustBe(t, "a method with type parameters", p, want)
	}
}

func TestParams(t *testing.T) {
	for _, n := range []int{1, api.MaxArgs, api.MaxArgs + 1} {
		p, want := sample(), Fault{}
		for len(p.Classes[base].Params) < n {
			i := len(p.Fields)
			p.Fields = append(p.Fields, api.Field{Name: "x" + strconv.Itoa(i), Owner: base})
			p.Classes[base].Params = append(p.Classes[base].Params, i)
			p.Classes[base].Fields = append(p.Classes[base].Fields, i)
		}
		if n > api.MaxArgs {
			want = Fault{PClass, base, api.ErrArity}
		}
		mustBe(t, "a class with parameters", p, want)
	}
	for params, code := range map[int]api.Errno{-1 << 63: api.ErrArity, -1: api.ErrArity, 0: api.OK, 1: api.OK, api.MaxArgs: api.OK, api.MaxArgs + 1: api.ErrArity, 1<<63 - 1: api.ErrArity} {
		p, want := sample(), Fault{}
		p.Methods[function].Locals = locals(api.MaxLocals)
		p.Methods[function].Params = params
		if code != api.OK {
			want = Fault{PMethod, function, code}
		}
		mustBe(t, "a method with "+strconv.Itoa(params)+" parameters", p, want)
	}
}

// locals returns that many locals with names of their own.
func locals(n int) []api.Local {
	var list []api.Local
	for i := range n {
		list = append(list, api.Local{Name: "a" + strconv.Itoa(i)})
	}
	return list
}

func TestLocals(t *testing.T) {
	for n := range api.MaxLocals + 2 {
		p, want := sample(), Fault{}
		p.Methods[main].Locals = locals(n)
		if n > api.MaxLocals {
			want = Fault{PMethod, main, api.ErrLimit}
			p.Methods[main].Locals[0].Name = ""
		}
		mustBe(t, "a method with "+strconv.Itoa(n)+" locals", p, want)
	}
}

func TestParents(t *testing.T) {
	for _, n := range []int{1, 2, api.MaxArgs, api.MaxArgs + 1} {
		p, want := sample(), Fault{}
		for i := range n - 1 {
			p.Classes = append(p.Classes, api.Class{Name: "T" + strconv.Itoa(i), Kind: api.IsTrait, Owner: -1, Parents: []api.Type{anyType()}})
		}
		var list []api.Type
		for i := range n - 1 {
			list = append(list, classType(len(p.Classes)-1-i, 0))
		}
		p.Classes[mainObject].Parents = append(p.Classes[mainObject].Parents, list...)
		if n > api.MaxArgs {
			want = Fault{PClass, mainObject, api.ErrLimit}
			p.Classes[mainObject].Parents[0] = api.Type{}
		}
		mustBe(t, "a class with parents", p, want)
	}
}

func TestArities(t *testing.T) {
	for arity, code := range map[int]api.Errno{-1 << 63: api.ErrRange, -1: api.ErrRange, 0: api.OK, 1: api.OK, api.MaxArgs: api.OK, api.MaxArgs + 1: api.ErrRange, 1<<63 - 1: api.ErrRange} {
		for part, set := range map[int]func(p *api.Program){PTParam: func(p *api.Program) { p.TParams[1].Arity = arity }, PTypeMember: func(p *api.Program) { p.Types[1].Arity = arity }} {
			p, want := sample(), Fault{}
			set(&p)
			if code != api.OK {
				want = Fault{part, 1, code}
			}
			mustBe(t, "the arity "+strconv.Itoa(arity), p, want)
		}
	}
}

// permitted has edits of the sample that leave it right.
func permitted() map[string]func(p *api.Program) {
	return map[string]func(p *api.Program){
		"no main method":                                     func(p *api.Program) { p.Main = -1 },
		"a function as the main method":                      func(p *api.Program) { grow(p, PMethod, 6); p.Main = 5 },
		"a main method with locals":                          func(p *api.Program) { p.Methods[main].Locals = []api.Local{{Name: "x", Flags: api.Var}} },
		"a private main method":                              func(p *api.Program) { p.Methods[main].Flags = api.Private | api.Final | api.Given },
		"a final object":                                     func(p *api.Program) { p.Classes[mainObject].Flags = api.Final | api.Private },
		"an abstract trait":                                  func(p *api.Program) { p.Classes[aTrait].Flags = api.Abstract | api.Private },
		"a sealed class that is not abstract":                func(p *api.Program) { p.Classes[top].Flags = api.Sealed },
		"a value class that is abstract":                     func(p *api.Program) { p.Classes[value].Flags |= api.Abstract | api.Case },
		"a class without abstract methods":                   func(p *api.Program) { p.Classes[base].Flags = 0 },
		"an abstract method":                                 func(p *api.Program) { p.Methods[baseMethod].Flags, p.Methods[baseMethod].Body = api.Abstract, nil },
		"an override of nothing":                             func(p *api.Program) { p.Methods[main].Flags = api.Override },
		"methods with one name":                              func(p *api.Program) { p.Methods[traitMethod].Name = "f" },
		"a method with the name of a field of another class": func(p *api.Program) { p.Methods[baseMethod].Name = "message" },
		"a function with the name of a field":                func(p *api.Program) { p.Methods[function].Name = "p" },
		"functions with one name":                            func(p *api.Program) { grow(p, PMethod, 7); p.Methods[5].Name, p.Methods[6].Name = "h", "h" },
		"a type member with the name of a field":             func(p *api.Program) { p.Types[baseType].Name = "p" },
		"a type member with the name of a method":            func(p *api.Program) { p.Types[baseType].Name = "f" },
		"a type parameter with the name of a type member":    func(p *api.Program) { p.TParams[baseT].Name = "Out" },
		"a field with the name of a class":                   func(p *api.Program) { p.Fields[baseVar].Name = "Base" },
		"fields of two classes with one name":                func(p *api.Program) { p.Fields[baseParam].Name = "message" },
		"classes with one name in two classes":               func(p *api.Program) { p.Classes[inner].Name = "Main" },
		"an object with the name of a class":                 func(p *api.Program) { p.Classes[mainObject].Name = "Top" },
		"a class inside of one behind it":                    func(p *api.Program) { p.Classes[top].Owner = companion },
		"a class inside of its child":                        func(p *api.Program) { p.Classes[top].Owner = base },
		"a parent inside of its child":                       func(p *api.Program) { p.Classes[top].Owner = inner },
		"a class that extends one around it": func(p *api.Program) {
			p.Classes[value].Owner, p.Classes[value].Flags = base, 0
			p.Classes[value].Parents = []api.Type{classType(base, 2)}
		},
		"a locals' name of a parameter":    func(p *api.Program) { p.Methods[function].Locals[2].Name = "a" },
		"TAny with the number of a parent": func(p *api.Program) { p.Classes[value].Parents[0].Sym = aTrait },
		"a parent that comes twice by others": func(p *api.Program) {
			p.Classes[inner].Parents = append(p.Classes[inner].Parents, classType(aTrait, 1))
		},
		"arguments that are no types": func(p *api.Program) { p.Classes[value].Parents[1].Args[0].Kind = -7 },
		"a case class that extends no other": func(p *api.Program) {
			p.Classes[aTrait].Flags = 0
			p.Classes[top].Flags = api.Final | api.Case
			p.Classes[base].Parents[0] = anyType()
		},
		"a parent in another order": func(p *api.Program) { p.Classes[top].Parents = []api.Type{anyType(), classType(aTrait, 1)} },
		"wrong trees": func(p *api.Program) {
			p.Classes[base].Supers = []api.Tree{{Kind: -1}}
			p.Classes[base].Init = []api.Tree{{Sym: 99}}
			p.Classes[base].At = -5
		},
		"types that are none": func(p *api.Program) {
			p.Fields[topField].Type.Kind = 99
			p.Methods[main].Result.Kind = -1
			p.Methods[baseMethod].Locals[0].Type.Sym = 99
			p.TParams[baseT].Lo.Kind = 77
			p.Types[0].Hi.Kind = -3
		},
	}
}

func TestPermitted(t *testing.T) {
	for what, edit := range permitted() {
		p := sample()
		edit(&p)
		mustBe(t, what, p, Fault{})
	}
}

// predefined is the program that each other one begins with: see chapter 17.
func TestPredefinedClasses(t *testing.T) {
	p := api.Program{Main: -1, Fields: []api.Field{{Name: "message", Type: api.Type{Kind: api.TString}}}}
	p.Classes = []api.Class{{Name: "Throwable", Owner: -1, Parents: []api.Type{anyType()}, Params: []int{0}, Fields: []int{0}}}
	for _, name := range []string{"MatchError", "ArithmeticException", "ClassCastException", "NullPointerException", "IndexOutOfBoundsException"} {
		p.Classes = append(p.Classes, api.Class{Name: name, Owner: -1, Parents: []api.Type{classType(0, 0)}})
	}
	mustBe(t, "the predefined classes", p, Fault{})
}

// TestExamples has the examples of the chapter.
func TestExamples(t *testing.T) {
	p := parents([]int{}, []int{0})
	p.Classes[0].Kind = api.IsTrait
	mustBe(t, "A, B", p, Fault{})
	p.Classes[1].Flags = api.Final
	p.Classes = append(p.Classes, api.Class{Name: "C", Owner: -1, Parents: []api.Type{classType(1, 0)}})
	mustBe(t, "A, final B, C", p, Fault{PClass, 2, api.ErrFinal})
	p = parents([]int{})
	p.Classes[0].Parents[0] = classType(0, 0)
	mustBe(t, "a class with itself as a parent", p, Fault{PClass, 0, api.ErrCycle})
	p = owners(-1)
	p.Classes[0].Methods = []int{0}
	p.Methods = []api.Method{{Name: "f", Flags: api.Abstract}}
	mustBe(t, "a class with an abstract method", p, Fault{PMethod, 0, api.ErrAbstract})
	p.Methods[0].Flags = 0
	mustBe(t, "a class with a method without a body", p, Fault{PMethod, 0, api.ErrInvalid})
}

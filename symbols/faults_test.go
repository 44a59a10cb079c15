package symbols

import (
	"slices"
	"strconv"
	"strings"
	"testing"

	"newel/api"
)

// P6.1: each fault that the chapter names, and the order of faults.

// fault is an edit of the sample that makes it wrong.
type fault struct {
	rule int // of the chapter
	want Fault
	what string // things that are edited, with commas between: two edits of the same thing are not made together
	edit func(p *api.Program)
}

func ofClass(rule, class int, code api.Errno, what string, edit func(c *api.Class)) fault {
	return fault{rule, Fault{PClass, class, code}, "class " + strconv.Itoa(class) + " " + what, func(p *api.Program) { edit(&p.Classes[class]) }}
}

func ofMethod(rule, method int, code api.Errno, what string, edit func(m *api.Method)) fault {
	return fault{rule, Fault{PMethod, method, code}, "method " + strconv.Itoa(method) + " " + what, func(p *api.Program) { edit(&p.Methods[method]) }}
}

func ofField(rule, field int, code api.Errno, what string, edit func(f *api.Field)) fault {
	return fault{rule, Fault{PField, field, code}, "field " + strconv.Itoa(field) + " " + what, func(p *api.Program) { edit(&p.Fields[field]) }}
}

func ofParam(rule, param int, code api.Errno, what string, edit func(t *api.TypeParam)) fault {
	return fault{rule, Fault{PTParam, param, code}, "param " + strconv.Itoa(param) + " " + what, func(p *api.Program) { edit(&p.TParams[param]) }}
}

func ofMember(rule, member int, code api.Errno, what string, edit func(t *api.TypeMember)) fault {
	return fault{rule, Fault{PTypeMember, member, code}, "member " + strconv.Itoa(member) + " " + what, func(p *api.Program) { edit(&p.Types[member]) }}
}

// classFaults has the faults of the rules 2 to 5, for each class in the order of the text.
func classFaults() []fault {
	list := func(n int) []int { return make([]int, n) }
	return []fault{
		// 2: names, kinds and flags.
		ofClass(2, base, api.ErrName, "name", func(c *api.Class) { c.Name = "" }),
		ofClass(2, base, api.ErrName, "name", func(c *api.Class) { c.Name = "1a" }),
		ofClass(2, base, api.ErrName, "name", func(c *api.Class) { c.Name = strings.Repeat("a", api.MaxName+1) }),
		ofClass(2, base, api.ErrKind, "kind", func(c *api.Class) { c.Kind = api.ClassKinds }),
		ofClass(2, base, api.ErrKind, "kind", func(c *api.Class) { c.Kind = -1 }),
		ofClass(2, base, api.ErrInvalid, "flags", func(c *api.Class) { c.Flags |= api.Override }),
		ofClass(2, base, api.ErrInvalid, "flags", func(c *api.Class) { c.Flags |= api.Final }),
		ofClass(2, base, api.ErrInvalid, "flags", func(c *api.Class) { c.Flags |= api.Flags }),
		ofClass(2, base, api.ErrInvalid, "flags", func(c *api.Class) { c.Flags = -1 }),
		ofClass(2, aTrait, api.ErrInvalid, "flags", func(c *api.Class) { c.Flags |= api.Case }),
		ofClass(2, aTrait, api.ErrInvalid, "flags", func(c *api.Class) { c.Flags |= api.Value }),
		ofClass(2, aTrait, api.ErrInvalid, "flags", func(c *api.Class) { c.Flags |= api.Final }),
		ofClass(2, companion, api.ErrInvalid, "flags", func(c *api.Class) { c.Flags |= api.Abstract }),
		ofClass(2, companion, api.ErrInvalid, "flags", func(c *api.Class) { c.Flags |= api.Sealed }),
		ofClass(2, companion, api.ErrInvalid, "flags", func(c *api.Class) { c.Flags |= api.Value }),
		// 2: indices.
		ofClass(2, base, api.ErrRange, "owner", func(c *api.Class) { c.Owner = base }),
		ofClass(2, base, api.ErrRange, "owner", func(c *api.Class) { c.Owner = -2 }),
		ofClass(2, base, api.ErrRange, "owner", func(c *api.Class) { c.Owner = 7 }),
		{2, Fault{PClass, base, api.ErrRange}, "class 2 tparams", func(p *api.Program) { p.Classes[base].TParams = []int{baseT, len(p.TParams)} }},
		ofClass(2, base, api.ErrRange, "tparams", func(c *api.Class) { c.TParams = []int{-1} }),
		{2, Fault{PClass, base, api.ErrRange}, "class 2 params", func(p *api.Program) { p.Classes[base].Params = []int{len(p.Fields)} }},
		ofClass(2, base, api.ErrRange, "params", func(c *api.Class) { c.Params = append(list(13), -1) }),
		{2, Fault{PClass, base, api.ErrRange}, "class 2 fields", func(p *api.Program) { p.Classes[base].Fields = []int{baseVar, baseParam, len(p.Fields)} }},
		ofClass(2, base, api.ErrRange, "fields", func(c *api.Class) { c.Fields = []int{-1, baseParam} }),
		{2, Fault{PClass, base, api.ErrRange}, "class 2 methods", func(p *api.Program) { p.Classes[base].Methods = []int{len(p.Methods)} }},
		ofClass(2, base, api.ErrRange, "methods", func(c *api.Class) { c.Methods = []int{baseMethod, -1} }),
		{2, Fault{PClass, base, api.ErrRange}, "class 2 types", func(p *api.Program) { p.Classes[base].Types = []int{len(p.Types)} }},
		ofClass(2, base, api.ErrRange, "types", func(c *api.Class) { c.Types = []int{-1 << 63} }),
		ofClass(2, base, api.ErrTwice, "tparams", func(c *api.Class) { c.TParams = []int{baseT, baseU, baseT} }),
		ofClass(2, base, api.ErrTwice, "tparams", func(c *api.Class) { c.TParams = list(13) }),
		ofClass(2, base, api.ErrTwice, "params", func(c *api.Class) { c.Params = []int{baseParam, baseParam} }),
		ofClass(2, base, api.ErrTwice, "fields", func(c *api.Class) { c.Fields = []int{baseParam, baseVar, baseVar} }),
		ofClass(2, base, api.ErrTwice, "methods", func(c *api.Class) { c.Methods = []int{main, baseMethod, main} }),
		ofClass(2, base, api.ErrTwice, "types", func(c *api.Class) { c.Types = []int{baseType, baseType} }),
		// 2: numbers.
		ofClass(2, aTrait, api.ErrArity, "params", func(c *api.Class) { c.Params = []int{baseParam} }),
		ofClass(2, companion, api.ErrArity, "params", func(c *api.Class) { c.Params = []int{baseParam} }),
		ofClass(2, companion, api.ErrArity, "tparams", func(c *api.Class) { c.TParams = []int{baseT} }),
		// 2: what belongs to something else.
		ofClass(2, aTrait, api.ErrInvalid, "fields", func(c *api.Class) { c.Fields = []int{baseVar} }),
		ofClass(2, base, api.ErrInvalid, "methods", func(c *api.Class) { c.Methods = []int{baseMethod, main} }),
		ofClass(2, base, api.ErrInvalid, "methods", func(c *api.Class) { c.Methods = []int{function} }),
		ofClass(2, base, api.ErrInvalid, "types", func(c *api.Class) { c.Types = []int{traitType} }),
		ofClass(2, base, api.ErrInvalid, "tparams", func(c *api.Class) { c.TParams = []int{baseT, traitT} }),
		ofClass(2, base, api.ErrInvalid, "tparams", func(c *api.Class) { c.TParams = []int{functionT} }),
		ofClass(2, base, api.ErrInvalid, "params", func(c *api.Class) { c.Params = []int{valueField} }),
		ofClass(2, base, api.ErrInvalid, "fields", func(c *api.Class) { c.Fields = []int{baseVar} }),
		ofClass(2, value, api.ErrInvalid, "params", func(c *api.Class) { c.Params = nil }),
		ofClass(2, top, api.ErrInvalid, "params", func(c *api.Class) { c.Flags, c.Params, c.Fields = api.Value, nil, nil }),
		ofClass(2, base, api.ErrInvalid, "flags", func(c *api.Class) { c.Flags = api.Value }),
		// 3.
		ofClass(3, mainObject, api.ErrCycle, "owner", func(c *api.Class) { c.Owner = inner }),
		ofClass(3, mainObject, api.ErrCycle, "owner", func(c *api.Class) { c.Owner = companion }),
		// 4: parents.
		ofClass(4, base, api.ErrEmpty, "parents", func(c *api.Class) { c.Parents = nil }),
		ofClass(4, base, api.ErrEmpty, "parents", func(c *api.Class) { c.Parents = []api.Type{} }),
		ofClass(4, base, api.ErrLimit, "parents", func(c *api.Class) { c.Parents = make([]api.Type, api.MaxArgs+1) }),
		ofClass(4, base, api.ErrKind, "parents", func(c *api.Class) { c.Parents = []api.Type{{Kind: api.TThis}} }),
		ofClass(4, base, api.ErrKind, "parents", func(c *api.Class) { c.Parents = []api.Type{{}} }),
		ofClass(4, base, api.ErrKind, "parents", func(c *api.Class) { c.Parents = []api.Type{{Kind: api.TNothing}} }),
		ofClass(4, base, api.ErrKind, "parents", func(c *api.Class) { c.Parents = []api.Type{anyType(), anyType()} }),
		ofClass(4, base, api.ErrKind, "parents", func(c *api.Class) { c.Parents = []api.Type{anyType(), {Kind: api.TString}, classType(9, 0)} }),
		ofClass(4, base, api.ErrRange, "parents", func(c *api.Class) { c.Parents = []api.Type{classType(7, 0)} }),
		ofClass(4, base, api.ErrRange, "parents", func(c *api.Class) { c.Parents = []api.Type{anyType(), classType(-1, 0)} }),
		ofClass(4, aTrait, api.ErrRange, "parents", func(c *api.Class) { c.Parents = []api.Type{classType(7, 0)} }),
		ofClass(4, aTrait, api.ErrKind, "parents", func(c *api.Class) { c.Parents = []api.Type{classType(top, 0)} }),
		ofClass(4, aTrait, api.ErrKind, "parents", func(c *api.Class) { c.Parents = []api.Type{classType(inner, 0)} }),
		ofClass(4, aTrait, api.ErrKind, "parents", func(c *api.Class) { c.Parents = []api.Type{classType(aTrait, 1)} }),
		ofClass(4, base, api.ErrKind, "parents", func(c *api.Class) { c.Parents = []api.Type{classType(aTrait, 1)} }),
		ofClass(4, base, api.ErrKind, "parents", func(c *api.Class) { c.Parents = []api.Type{classType(mainObject, 0)} }),
		ofClass(4, base, api.ErrKind, "parents", func(c *api.Class) { c.Parents = []api.Type{anyType(), classType(top, 0)} }),
		ofClass(4, base, api.ErrKind, "parents", func(c *api.Class) { c.Parents = []api.Type{anyType(), classType(companion, 0)} }),
		ofClass(4, base, api.ErrKind, "parents", func(c *api.Class) { c.Parents = []api.Type{anyType(), classType(inner, 0)} }),
		ofClass(4, base, api.ErrFinal, "parents", func(c *api.Class) { c.Parents = []api.Type{classType(inner, 0)} }),
		ofClass(4, base, api.ErrFinal, "parents", func(c *api.Class) { c.Parents = []api.Type{classType(inner, 2)} }),
		ofClass(4, base, api.ErrArity, "parents", func(c *api.Class) { c.Parents = []api.Type{classType(top, 1)} }),
		ofClass(4, base, api.ErrArity, "parents", func(c *api.Class) { c.Parents = []api.Type{anyType(), classType(aTrait, 0)} }),
		ofClass(4, base, api.ErrArity, "parents", func(c *api.Class) { c.Parents = []api.Type{anyType(), classType(aTrait, 1), classType(aTrait, 2)} }),
		ofClass(4, base, api.ErrTwice, "parents", func(c *api.Class) { c.Parents = []api.Type{anyType(), classType(aTrait, 1), classType(aTrait, 1)} }),
		{4, Fault{PClass, inner, api.ErrInvalid}, "class 2 flags,class 2 parents,case", func(p *api.Program) { p.Classes[base].Flags |= api.Case }},
		ofClass(4, value, api.ErrInvalid, "parents", func(c *api.Class) { c.Parents = []api.Type{classType(top, 0)} }),
		// 5: ancestors.
		ofClass(5, base, api.ErrCycle, "parents", func(c *api.Class) { c.Parents = []api.Type{classType(base, 2)} }),
		ofClass(5, aTrait, api.ErrCycle, "parents", func(c *api.Class) { c.Parents = []api.Type{anyType(), classType(aTrait, 1)} }),
		{5, Fault{PClass, top, api.ErrCycle}, "class 0 parents,class 2 parents", func(p *api.Program) { p.Classes[top].Parents = []api.Type{classType(base, 2)} }},
		{5, Fault{PClass, inner, api.ErrInvalid}, "class 0 flags,case", func(p *api.Program) { p.Classes[top].Flags |= api.Case }},
	}
}

// memberFaults has the faults of the rules 6 to 8.
func memberFaults() []fault {
	return []fault{
		// 6.
		ofMethod(6, baseMethod, api.ErrName, "name", func(m *api.Method) { m.Name = "a+" }),
		ofMethod(6, function, api.ErrName, "name", func(m *api.Method) { m.Name = "" }),
		ofMethod(6, baseMethod, api.ErrInvalid, "flags", func(m *api.Method) { m.Flags |= api.Sealed }),
		ofMethod(6, baseMethod, api.ErrInvalid, "flags", func(m *api.Method) { m.Flags |= -1 << 62 }),
		ofMethod(6, baseMethod, api.ErrInvalid, "body", func(m *api.Method) { m.Flags |= api.Abstract }),
		ofMethod(6, baseMethod, api.ErrInvalid, "body", func(m *api.Method) { m.Body = nil }),
		ofMethod(6, traitMethod, api.ErrInvalid, "body", func(m *api.Method) { m.Body = nil }),
		ofMethod(6, traitAbstract, api.ErrInvalid, "body", func(m *api.Method) { m.Body = &api.Tree{} }),
		ofMethod(6, traitAbstract, api.ErrInvalid, "flags", func(m *api.Method) { m.Flags |= api.Final }),
		ofMethod(6, traitAbstract, api.ErrInvalid, "flags", func(m *api.Method) { m.Flags |= api.Private }),
		ofMethod(6, traitAbstract, api.ErrInvalid, "flags", func(m *api.Method) { m.Flags |= api.Inline }),
		ofMethod(6, function, api.ErrInvalid, "flags", func(m *api.Method) { m.Flags |= api.Abstract }),
		ofMethod(6, function, api.ErrRange, "owner", func(m *api.Method) { m.Owner = -2 }),
		ofMethod(6, function, api.ErrRange, "owner", func(m *api.Method) { m.Owner = 7 }),
		{6, Fault{PMethod, baseMethod, api.ErrRange}, "method 2 tparams", func(p *api.Program) { p.Methods[baseMethod].TParams = []int{functionT, len(p.TParams)} }},
		ofMethod(6, function, api.ErrRange, "tparams", func(m *api.Method) { m.TParams = []int{-1} }),
		ofMethod(6, function, api.ErrTwice, "tparams", func(m *api.Method) { m.TParams = []int{functionT, functionU, functionT} }),
		ofMethod(6, function, api.ErrTwice, "tparams", func(m *api.Method) { m.TParams = make([]int, 13) }),
		ofMethod(6, function, api.ErrArity, "params", func(m *api.Method) { m.Params = -1 }),
		ofMethod(6, function, api.ErrArity, "params", func(m *api.Method) { m.Params = len(m.Locals) + 1 }),
		ofMethod(6, function, api.ErrArity, "params", func(m *api.Method) { m.Params, m.Locals = api.MaxArgs+1, make([]api.Local, api.MaxLocals+1) }),
		ofMethod(6, function, api.ErrLimit, "locals", func(m *api.Method) { m.Locals = make([]api.Local, api.MaxLocals+1) }),
		ofMethod(6, function, api.ErrName, "locals", func(m *api.Method) { m.Locals[1] = api.Local{Name: "b.", Flags: api.Var} }),
		ofMethod(6, function, api.ErrName, "locals", func(m *api.Method) { m.Locals[1].Name, m.Locals[2].Flags = "1", -1 }),
		ofMethod(6, function, api.ErrName, "locals", func(m *api.Method) { m.Locals[2].Name = "" }),
		ofMethod(6, function, api.ErrInvalid, "locals", func(m *api.Method) { m.Locals[0].Flags, m.Locals[1].Name = api.Var, "" }),
		ofMethod(6, function, api.ErrInvalid, "locals", func(m *api.Method) { m.Locals[1].Flags = api.Lazy }),
		ofMethod(6, function, api.ErrInvalid, "locals", func(m *api.Method) { m.Locals[0].Flags = api.Given }),
		ofMethod(6, function, api.ErrInvalid, "locals", func(m *api.Method) { m.Locals[2].Flags = api.Lazy | api.Var }),
		ofMethod(6, function, api.ErrInvalid, "locals", func(m *api.Method) { m.Locals[2].Flags = api.Final }),
		ofMethod(6, function, api.ErrTwice, "locals", func(m *api.Method) { m.Locals[0].Name = "b" }),
		ofMethod(6, baseMethod, api.ErrInvalid, "tparams", func(m *api.Method) { m.TParams = []int{functionT} }),
		ofMethod(6, function, api.ErrInvalid, "tparams", func(m *api.Method) { m.TParams = []int{functionT, functionU, baseT} }),
		ofMethod(6, function, api.ErrNoEntry, "owner", func(m *api.Method) { m.Owner = mainObject }),
		{6, Fault{PMethod, traitMethod, api.ErrNoEntry}, "class 1 methods", func(p *api.Program) { p.Classes[aTrait].Methods = []int{traitAbstract} }},
		ofMethod(6, main, api.ErrAbstract, "flags", func(m *api.Method) { m.Flags, m.Body = api.Abstract, nil }),
		ofMethod(6, function, api.ErrAbstract, "flags", func(m *api.Method) { m.Flags, m.Body = api.Abstract|api.Override, nil }),
		{6, Fault{PMethod, baseMethod, api.ErrAbstract}, "class 2 flags,method 2 body", func(p *api.Program) {
			p.Classes[base].Flags, p.Methods[baseMethod].Flags, p.Methods[baseMethod].Body = 0, api.Abstract, nil
		}},
		ofMethod(6, function, api.ErrInvalid, "flags", func(m *api.Method) { m.Flags |= api.Override }),
		// 7: fields.
		ofField(7, baseVar, api.ErrName, "name", func(f *api.Field) { f.Name = "x.y" }),
		ofField(7, baseVar, api.ErrInvalid, "flags", func(f *api.Field) { f.Flags |= api.Abstract }),
		ofField(7, baseVar, api.ErrInvalid, "flags", func(f *api.Field) { f.Flags |= api.Using }),
		ofField(7, baseVar, api.ErrInvalid, "flags", func(f *api.Field) { f.Flags = api.Var | api.Lazy }),
		ofField(7, baseVar, api.ErrInvalid, "flags", func(f *api.Field) { f.Flags = api.Volatile }),
		ofField(7, baseVar, api.ErrInvalid, "flags", func(f *api.Field) { f.Flags = api.Volatile | api.Lazy }),
		ofField(7, baseParam, api.ErrInvalid, "flags", func(f *api.Field) { f.Flags = api.Lazy }),
		{7, Fault{PField, 5, api.ErrRange}, "fields", func(p *api.Program) { p.Fields = append(p.Fields, api.Field{Name: "a", Owner: -1}) }},
		{7, Fault{PField, 5, api.ErrRange}, "fields", func(p *api.Program) { p.Fields = append(p.Fields, api.Field{Name: "a", Owner: 7}) }},
		{7, Fault{PField, 5, api.ErrNoEntry}, "fields", func(p *api.Program) { p.Fields = append(p.Fields, api.Field{Name: "a"}) }},
		// 7: type parameters.
		ofParam(7, baseT, api.ErrName, "name", func(t *api.TypeParam) { t.Name = "#0" }),
		ofParam(7, baseT, api.ErrRange, "variance", func(t *api.TypeParam) { t.Variance = 2 }),
		ofParam(7, baseT, api.ErrRange, "variance", func(t *api.TypeParam) { t.Variance = -2 }),
		ofParam(7, functionT, api.ErrRange, "variance", func(t *api.TypeParam) { t.Variance = -2 }),
		ofParam(7, baseT, api.ErrRange, "arity", func(t *api.TypeParam) { t.Arity = -1 }),
		ofParam(7, functionT, api.ErrRange, "arity", func(t *api.TypeParam) { t.Arity = api.MaxArgs + 1 }),
		{7, Fault{PTParam, 5, api.ErrRange}, "params", func(p *api.Program) { addParam(p, -1, -1) }},
		{7, Fault{PTParam, 5, api.ErrRange}, "params", func(p *api.Program) { addParam(p, base, function) }},
		{7, Fault{PTParam, 5, api.ErrRange}, "params", func(p *api.Program) { addParam(p, 7, -1) }},
		{7, Fault{PTParam, 5, api.ErrRange}, "params", func(p *api.Program) { addParam(p, -1, 5) }},
		{7, Fault{PTParam, 5, api.ErrRange}, "params", func(p *api.Program) { addParam(p, base, -2) }},
		{7, Fault{PTParam, 5, api.ErrRange}, "params", func(p *api.Program) { addParam(p, -2, function) }},
		{7, Fault{PTParam, 5, api.ErrNoEntry}, "params", func(p *api.Program) { addParam(p, base, -1) }},
		{7, Fault{PTParam, 5, api.ErrNoEntry}, "params", func(p *api.Program) { addParam(p, -1, function); p.TParams[5].Variance = 1 }},
		ofParam(7, functionT, api.ErrVariance, "variance", func(t *api.TypeParam) { t.Variance = 1 }),
		ofParam(7, functionU, api.ErrVariance, "variance", func(t *api.TypeParam) { t.Variance = -1 }),
		// 7: type members.
		ofMember(7, baseType, api.ErrName, "name", func(t *api.TypeMember) { t.Name = "" }),
		ofMember(7, baseType, api.ErrRange, "arity", func(t *api.TypeMember) { t.Arity = -1 }),
		ofMember(7, baseType, api.ErrRange, "arity", func(t *api.TypeMember) { t.Arity = api.MaxArgs + 1 }),
		{7, Fault{PTypeMember, 2, api.ErrRange}, "members", func(p *api.Program) { p.Types = append(p.Types, api.TypeMember{Name: "a", Owner: -1}) }},
		{7, Fault{PTypeMember, 2, api.ErrRange}, "members", func(p *api.Program) { p.Types = append(p.Types, api.TypeMember{Name: "a", Owner: 7}) }},
		{7, Fault{PTypeMember, 2, api.ErrNoEntry}, "members", func(p *api.Program) { p.Types = append(p.Types, api.TypeMember{Name: "Out"}) }},
		// 8.
		ofClass(8, base, api.ErrTwice, "name", func(c *api.Class) { c.Name = "Trait" }),
		ofClass(8, value, api.ErrTwice, "name", func(c *api.Class) { c.Name = "Inner" }),
		{8, Fault{PField, baseVar, api.ErrTwice}, "field 2 name", func(p *api.Program) { p.Fields[baseVar].Name = "p" }},
		{8, Fault{PMethod, baseMethod, api.ErrTwice}, "method 2 name", func(p *api.Program) { p.Methods[baseMethod].Name = "p" }},
		{8, Fault{PMethod, baseMethod, api.ErrTwice}, "method 2 name", func(p *api.Program) { p.Methods[baseMethod].Name = "v" }},
		{8, Fault{PTypeMember, 2, api.ErrTwice}, "members", func(p *api.Program) {
			p.Types = append(p.Types, api.TypeMember{Name: "Out", Owner: base})
			p.Classes[base].Types = []int{2, baseType}
		}},
		ofParam(8, baseU, api.ErrTwice, "name", func(t *api.TypeParam) { t.Name = "T" }),
		ofParam(8, functionU, api.ErrTwice, "name", func(t *api.TypeParam) { t.Name = "T" }),
	}
}

func addParam(p *api.Program, class, method int) {
	p.TParams = append(p.TParams, api.TypeParam{Name: "a", Class: class, Method: method})
}

// mainFaults has the faults of rule 9.
func mainFaults() []fault {
	var faults []fault
	for _, i := range []int{-2, 5, -1 << 63, 1<<63 - 1} {
		faults = append(faults, fault{9, Fault{PMain, i, api.ErrRange}, "main", func(p *api.Program) { p.Main = i }})
	}
	for _, i := range []int{traitAbstract, traitMethod, baseMethod, function} {
		faults = append(faults, fault{9, Fault{PMain, i, api.ErrInvalid}, "main", func(p *api.Program) { p.Main = i }})
	}
	return faults
}

func allFaults() []fault {
	return slices.Concat(classFaults(), memberFaults(), mainFaults())
}

func TestSample(t *testing.T) {
	mustBe(t, "the sample", sample(), Fault{})
	mustBe(t, "a program without anything", api.Program{Main: -1}, Fault{})
	mustBe(t, "the zero program", api.Program{}, Fault{PMain, 0, api.ErrRange})
}

func TestFaults(t *testing.T) {
	for i, f := range allFaults() {
		p := sample()
		f.edit(&p)
		mustBe(t, "the sample with the fault "+strconv.Itoa(i)+" of "+f.what, p, f.want)
	}
}

// areSame reports whether two edits are made of the same thing.
func areSame(what, other string) bool {
	others := strings.Split(other, ",")
	return slices.ContainsFunc(strings.Split(what, ","), func(w string) bool { return slices.Contains(others, w) })
}

// isAhead reports whether a fault is told ahead of another one that stands behind it in the list.
func isAhead(f, g fault) bool {
	if f.rule != g.rule || f.want.Part != g.want.Part {
		return true
	}
	return f.want.Index <= g.want.Index
}

// Of two faults the one is told that the chapter names first, or that of the first item, if both are of one rule.
func TestOrderOfFaults(t *testing.T) {
	faults := allFaults()
	for i, f := range faults {
		for j, g := range faults[i+1:] {
			if areSame(f.what, g.what) {
				continue
			}
			first, second := f, g
			if !isAhead(f, g) {
				first, second = g, f
			}
			p := sample()
			second.edit(&p)
			first.edit(&p)
			mustBe(t, "the sample with the faults "+strconv.Itoa(i)+" and "+strconv.Itoa(i+1+j)+" of "+f.what+" and "+g.what, p, first.want)
		}
	}
}

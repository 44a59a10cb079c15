package symbols

import (
	"math/rand"
	"slices"
	"strconv"
	"testing"

	"newel/api"
)

// The items of the sample.
const (
	top, aTrait, base, mainObject, inner, value, companion = 0, 1, 2, 3, 4, 5, 6 // classes
	topField, baseParam, baseVar, valueField, innerParam   = 0, 1, 2, 3, 4       // fields
	traitAbstract, traitMethod, baseMethod, main, function = 0, 1, 2, 3, 4       // methods
	traitT, baseT, baseU, functionT, functionU             = 0, 1, 2, 3, 4       // type parameters
	traitType, baseType                                    = 0, 1                // type members
)

func anyType() api.Type { return api.Type{Kind: api.TAny} }

// classType returns the type of a class with that many arguments.
func classType(class, args int) api.Type {
	return api.Type{Kind: api.TClass, Sym: class, Args: make([]api.Type, args)}
}

// sample returns a right program that has something of each part.
func sample() api.Program {
	body := &api.Tree{Kind: api.ELit}
	return api.Program{
		Classes: []api.Class{
			{Name: "Top", Owner: -1, Parents: []api.Type{anyType()}, Params: []int{topField}, Fields: []int{topField}},
			{Name: "Trait", Kind: api.IsTrait, Owner: -1, Flags: api.Sealed, Parents: []api.Type{anyType()}, TParams: []int{traitT}, Methods: []int{traitAbstract, traitMethod}, Types: []int{traitType}},
			{Name: "Base", Owner: -1, Flags: api.Abstract, Parents: []api.Type{classType(top, 0), classType(aTrait, 1)}, TParams: []int{baseT, baseU}, Params: []int{baseParam}, Fields: []int{baseVar, baseParam}, Methods: []int{baseMethod}, Types: []int{baseType}},
			{Name: "Main", Kind: api.IsObject, Owner: -1, Parents: []api.Type{anyType()}, Methods: []int{main}},
			{Name: "Inner", Owner: mainObject, Flags: api.Case | api.Final, Parents: []api.Type{classType(base, 2)}, Params: []int{innerParam}, Fields: []int{innerParam}},
			{Name: "Value", Owner: mainObject, Flags: api.Value, Parents: []api.Type{anyType(), classType(aTrait, 1)}, Params: []int{valueField}, Fields: []int{valueField}},
			{Name: "Inner", Kind: api.IsObject, Owner: mainObject, Flags: api.Case, Parents: []api.Type{classType(base, 2)}},
		},
		Methods: []api.Method{
			{Name: "f", Owner: aTrait, Flags: api.Abstract, Params: 1, Locals: []api.Local{{Name: "x"}}},
			{Name: "g", Owner: aTrait, Body: body},
			{Name: "f", Owner: base, Flags: api.Override, Params: 1, Locals: []api.Local{{Name: "x"}, {Name: "y", Flags: api.Var}}, Body: body},
			{Name: "main", Owner: mainObject, Body: body},
			{Name: "h", Owner: -1, Flags: api.Given, TParams: []int{functionU, functionT}, Params: 2, Locals: []api.Local{{Name: "a"}, {Name: "b", Flags: api.Using}, {Name: "b", Flags: api.Lazy}}, Body: body},
		},
		Fields: []api.Field{
			{Name: "message", Owner: top, Flags: api.Var},
			{Name: "p", Owner: base},
			{Name: "v", Owner: base, Flags: api.Var | api.Volatile},
			{Name: "value", Owner: value},
			{Name: "q", Owner: inner},
		},
		TParams: []api.TypeParam{
			{Name: "T", Class: aTrait, Method: -1, Variance: api.Covariant},
			{Name: "T", Class: base, Method: -1},
			{Name: "U", Class: base, Method: -1, Variance: api.Contravariant, Arity: 1},
			{Name: "T", Class: -1, Method: function},
			{Name: "U", Class: -1, Method: function, Arity: api.MaxArgs},
		},
		Types: []api.TypeMember{
			{Name: "Out", Owner: aTrait, Arity: 1},
			{Name: "Out", Owner: base, Arity: api.MaxArgs},
		},
		Main: main,
	}
}

// mustBe checks the fault of a program.
func mustBe(t *testing.T, what string, p api.Program, want Fault) {
	t.Helper()
	if f := Check(p); f != want {
		t.Errorf("Check of %s = %v; want %v", what, f, want)
	}
}

// grow adds items to a program until it has that many of a part. All are right, where the part permits them.
func grow(p *api.Program, part, size int) {
	for i := sizes(*p)[part]; i < size; i++ {
		name := "n" + strconv.Itoa(i)
		switch part {
		case PClass:
			p.Classes = append(p.Classes, api.Class{Name: name, Owner: -1, Parents: []api.Type{anyType()}})
		case PMethod:
			p.Methods = append(p.Methods, api.Method{Name: name, Owner: -1, Body: &api.Tree{}})
		case PField:
			p.Fields = append(p.Fields, api.Field{Name: name, Owner: mainObject})
			p.Classes[mainObject].Fields = append(p.Classes[mainObject].Fields, i)
		case PTParam:
			// At most api.MaxArgs fit into a list, so each method gets one.
			method := i - sizes(sample())[PTParam] + sizes(sample())[PMethod]
			grow(p, PMethod, method+1)
			p.Methods[method].TParams = []int{i}
			p.TParams = append(p.TParams, api.TypeParam{Name: name, Class: -1, Method: method})
		case PTypeMember:
			p.Types = append(p.Types, api.TypeMember{Name: name, Owner: mainObject})
			p.Classes[mainObject].Types = append(p.Classes[mainObject].Types, i)
		}
	}
}

// maker makes programs at random, the same ones in each run.
type maker struct{ *rand.Rand }

func newMaker(seed int64) maker { return maker{rand.New(rand.NewSource(seed))} }

// sometimes reports true once in that many times.
func (m maker) sometimes(times int) bool { return m.Intn(times) == 0 }

// flags returns some of the flags.
func (m maker) flags(flags ...int) int {
	sum := 0
	for _, f := range flags {
		if m.sometimes(4) {
			sum |= f
		}
	}
	return sum
}

// shuffled returns a list in another order.
func (m maker) shuffled(list []int) []int {
	m.Shuffle(len(list), func(i, j int) { list[i], list[j] = list[j], list[i] })
	return list
}

// program returns a right program with at most that many classes.
func (m maker) program(size int) api.Program {
	p := api.Program{Main: -1}
	for i := range m.Intn(size + 1) {
		m.class(&p, i)
	}
	for range m.Intn(4) {
		i := m.method(&p, -1, api.Class{})
		if p.Methods[i].Params == 0 && len(p.Methods[i].TParams) == 0 {
			p.Main = i
		}
	}
	for i := range p.Classes {
		c := &p.Classes[i]
		c.TParams, c.Fields, c.Params = m.shuffled(c.TParams), m.shuffled(c.Fields), m.shuffled(c.Params)
		c.Methods, c.Types = m.shuffled(c.Methods), m.shuffled(c.Types)
	}
	return p
}

// class adds a class to a program.
func (m maker) class(p *api.Program, i int) {
	c := api.Class{Name: "C" + strconv.Itoa(i), Kind: m.Intn(3), Owner: m.Intn(i+1) - 1, Flags: m.flags(api.Private, api.Synthetic)}
	if m.sometimes(3) {
		c.Owner = -1
	}
	switch c.Kind {
	case api.IsClass:
		c.Flags |= []int{0, 0, api.Abstract, api.Sealed, api.Final, api.Value, api.Case, api.Case | api.Final}[m.Intn(8)]
	case api.IsTrait:
		c.Flags |= m.flags(api.Abstract, api.Sealed)
	case api.IsObject:
		c.Flags |= m.flags(api.Final, api.Case)
		if j := m.Intn(i + 1); j < i && p.Classes[j].Kind != api.IsObject && FindClass(*p, p.Classes[j].Owner, p.Classes[j].Name, true) < 0 {
			c.Name, c.Owner = p.Classes[j].Name, p.Classes[j].Owner
		}
	}
	c.Parents = m.parents(*p, c)
	p.Classes = append(p.Classes, c)
	m.members(p, i)
}

// parents returns the parents of a class behind those of a program.
func (m maker) parents(p api.Program, c api.Class) []api.Type {
	parents := []api.Type{anyType()}
	for i, d := range p.Classes {
		isCase := func(j int) bool { return has(p.Classes[j].Flags, api.Case) }
		if has(c.Flags, api.Case) && (isCase(i) || slices.ContainsFunc(Ancestors(p, i), isCase)) {
			continue
		}
		t := classType(i, len(d.TParams))
		switch {
		case d.Kind == api.IsTrait && len(parents) < api.MaxArgs && m.sometimes(3):
			parents = slices.Insert(parents, 1+m.Intn(len(parents)), t)
		case d.Kind == api.IsClass && c.Kind != api.IsTrait && !has(c.Flags, api.Value) && !has(d.Flags, api.Final) && m.sometimes(2):
			parents[0] = t
		}
	}
	return parents
}

// members adds the members of the class i, which is the last one.
func (m maker) members(p *api.Program, i int) {
	c := &p.Classes[i]
	if c.Kind != api.IsObject {
		for range m.Intn(3) {
			c.TParams = append(c.TParams, len(p.TParams))
			p.TParams = append(p.TParams, api.TypeParam{Name: "T" + strconv.Itoa(len(p.TParams)), Class: i, Method: -1, Variance: m.Intn(3) - 1, Arity: m.Intn(api.MaxArgs + 1)})
		}
	}
	fields, params := m.Intn(4), 0
	if c.Kind == api.IsClass {
		params = m.Intn(fields + 1)
	}
	if has(c.Flags, api.Value) {
		fields, params = 1, 1
	}
	for j := range fields {
		f := api.Field{Name: m.name(len(p.Fields)), Owner: i, Flags: m.flags(api.Final, api.Private, api.Override, api.Given, api.Synthetic)}
		f.Flags |= []int{0, api.Var, api.Var | api.Volatile, api.Lazy}[m.Intn(4)]
		if j < params {
			f.Flags &^= api.Lazy
			c.Params = append(c.Params, len(p.Fields))
		}
		c.Fields = append(c.Fields, len(p.Fields))
		p.Fields = append(p.Fields, f)
	}
	for range m.Intn(3) {
		c.Types = append(c.Types, len(p.Types))
		p.Types = append(p.Types, api.TypeMember{Name: m.name(len(p.Types)), Owner: i, Arity: m.Intn(api.MaxArgs + 1)})
	}
	for range m.Intn(3) {
		c.Methods = append(c.Methods, m.method(p, i, *c))
	}
}

// name returns a name that no other number has.
func (m maker) name(i int) string {
	return []string{"x" + strconv.Itoa(i), "_$" + strconv.Itoa(i), "+" + operators[i/225%15:][:1] + operators[i/15%15:][:1] + operators[i%15:][:1]}[m.Intn(3)]
}

// method adds a method of a class (-1: a function) and returns its index.
func (m maker) method(p *api.Program, owner int, c api.Class) int {
	i := len(p.Methods)
	d := api.Method{Name: "m" + strconv.Itoa(i), Owner: owner, Flags: m.flags(api.Given, api.Extension, api.Synthetic)}
	if owner >= 0 {
		d.Name = []string{d.Name, "apply", "=="}[m.Intn(3)]
		d.Flags |= m.flags(api.Override)
	}
	if (c.Kind == api.IsTrait || has(c.Flags, api.Abstract)) && m.sometimes(2) {
		d.Flags |= api.Abstract
	} else {
		d.Flags |= m.flags(api.Final, api.Private, api.Inline)
		d.Body = &api.Tree{}
	}
	for range m.Intn(3) {
		d.TParams = append(d.TParams, len(p.TParams))
		p.TParams = append(p.TParams, api.TypeParam{Name: "T" + strconv.Itoa(len(p.TParams)), Class: -1, Method: i, Arity: m.Intn(api.MaxArgs + 1)})
	}
	d.TParams = m.shuffled(d.TParams)
	d.Params = m.Intn(4)
	for j := range d.Params + m.Intn(3) {
		l := api.Local{Name: "a" + strconv.Itoa(j), Flags: m.flags(api.Using, api.Synthetic)}
		if j >= d.Params {
			l.Name = "a"
			l.Flags |= m.flags(api.Given) | []int{0, api.Var, api.Lazy}[m.Intn(3)]
		}
		d.Locals = append(d.Locals, l)
	}
	p.Methods = append(p.Methods, d)
	return i
}

// copied returns a program that shares no memory with another one.
func copied(p api.Program) api.Program {
	p.Classes, p.Methods, p.Fields = slices.Clone(p.Classes), slices.Clone(p.Methods), slices.Clone(p.Fields)
	p.TParams, p.Types = slices.Clone(p.TParams), slices.Clone(p.Types)
	for i := range p.Classes {
		c := &p.Classes[i]
		c.TParams, c.Parents, c.Params = slices.Clone(c.TParams), slices.Clone(c.Parents), slices.Clone(c.Params)
		c.Fields, c.Methods, c.Types = slices.Clone(c.Fields), slices.Clone(c.Methods), slices.Clone(c.Types)
	}
	for i := range p.Methods {
		p.Methods[i].TParams, p.Methods[i].Locals = slices.Clone(p.Methods[i].TParams), slices.Clone(p.Methods[i].Locals)
	}
	return p
}

package symbols

import (
	"math/bits"
	"slices"
	"strings"
	"testing"

	"newel/api"
)

// P6.1: Check against the list of the chapter, written down as a table of conditions, for programs at random.

// clause is one thing that is asked of an item: the code, and whether the item breaks it.
type clause struct {
	code   api.Errno
	broken func(p api.Program, i int) bool
}

// listing is one rule of the chapter for one part. Rules for the elements of a list of an item stand at one place among the clauses.
type listing struct {
	part    int
	clauses []clause
}

type (
	program = api.Program
	class   = api.Class
	method  = api.Method
	local   = api.Local
	field   = api.Field
)

func of(code api.Errno, broken func(p program, i int) bool) clause { return clause{code, broken} }

func ofC(code api.Errno, broken func(c class) bool) clause {
	return clause{code, func(p program, i int) bool { return broken(p.Classes[i]) }}
}

func ofM(code api.Errno, broken func(m method) bool) clause {
	return clause{code, func(p program, i int) bool { return broken(p.Methods[i]) }}
}

func ofF(code api.Errno, broken func(f field) bool) clause {
	return clause{code, func(p program, i int) bool { return broken(p.Fields[i]) }}
}

// isNamed is another way to say what a name is.
func isNamed(s string) bool {
	isAll := func(set string) bool {
		return strings.IndexFunc(s, func(r rune) bool { return !strings.ContainsRune(set, r) }) < 0
	}
	return len(s) > 0 && len(s) < 65 && (isAll(letters+digits) && !strings.Contains(digits, s[:1]) || isAll(operators))
}

// others reports whether flags have others than these.
func others(flags int, permitted ...int) bool {
	for _, f := range permitted {
		flags &= -1 - f
	}
	return flags != 0
}

func outside(i, size int) bool { return i < 0 || i >= size }

func anyOutside(list []int, size int) bool {
	return slices.ContainsFunc(list, func(i int) bool { return outside(i, size) })
}

func repeated[T comparable](list []T) bool {
	for i, x := range list {
		if slices.Contains(list[:i], x) {
			return true
		}
	}
	return false
}

func classClauses() []clause {
	return []clause{
		ofC(api.ErrName, func(c class) bool { return !isNamed(c.Name) }),
		ofC(api.ErrKind, func(c class) bool { return c.Kind != api.IsClass && c.Kind != api.IsTrait && c.Kind != api.IsObject }),
		ofC(api.ErrInvalid, func(c class) bool { return others(c.Flags, 1, 2, 4, 8, 32, 64, 16384) }),
		ofC(api.ErrInvalid, func(c class) bool { return c.Flags&1 > 0 && c.Flags&2 > 0 }),
		ofC(api.ErrInvalid, func(c class) bool {
			return c.Kind == api.IsTrait && (c.Flags&2 > 0 || c.Flags&32 > 0 || c.Flags&64 > 0)
		}),
		ofC(api.ErrInvalid, func(c class) bool {
			return c.Kind == api.IsObject && (c.Flags&1 > 0 || c.Flags&4 > 0 || c.Flags&64 > 0)
		}),
		of(api.ErrRange, func(p program, i int) bool {
			return p.Classes[i].Owner != -1 && (outside(p.Classes[i].Owner, len(p.Classes)) || p.Classes[i].Owner == i)
		}),
		of(api.ErrRange, func(p program, i int) bool { return anyOutside(p.Classes[i].TParams, len(p.TParams)) }),
		of(api.ErrRange, func(p program, i int) bool { return anyOutside(p.Classes[i].Params, len(p.Fields)) }),
		of(api.ErrRange, func(p program, i int) bool { return anyOutside(p.Classes[i].Fields, len(p.Fields)) }),
		of(api.ErrRange, func(p program, i int) bool { return anyOutside(p.Classes[i].Methods, len(p.Methods)) }),
		of(api.ErrRange, func(p program, i int) bool { return anyOutside(p.Classes[i].Types, len(p.Types)) }),
		ofC(api.ErrTwice, func(c class) bool {
			return repeated(c.TParams) || repeated(c.Params) || repeated(c.Fields) || repeated(c.Methods) || repeated(c.Types)
		}),
		ofC(api.ErrArity, func(c class) bool { return len(c.TParams) > 12 || len(c.Params) > 12 }),
		ofC(api.ErrArity, func(c class) bool { return c.Kind != api.IsClass && len(c.Params) > 0 }),
		ofC(api.ErrArity, func(c class) bool { return c.Kind == api.IsObject && len(c.TParams) > 0 }),
		of(api.ErrInvalid, func(p program, i int) bool {
			c := p.Classes[i]
			return slices.ContainsFunc(c.Fields, func(j int) bool { return p.Fields[j].Owner != i }) ||
				slices.ContainsFunc(c.Methods, func(j int) bool { return p.Methods[j].Owner != i }) ||
				slices.ContainsFunc(c.Types, func(j int) bool { return p.Types[j].Owner != i }) ||
				slices.ContainsFunc(c.TParams, func(j int) bool { return p.TParams[j].Class != i || p.TParams[j].Method != -1 }) ||
				slices.ContainsFunc(c.Params, func(j int) bool { return !slices.Contains(c.Fields, j) })
		}),
		ofC(api.ErrInvalid, func(c class) bool { return c.Flags&64 > 0 && (len(c.Params) != 1 || len(c.Fields) > 1) }),
	}
}

// parentClauses are asked of the parents of a class in order: the clauses of the parent are made for its index.
func parentClauses(k int) []clause {
	ofP := func(code api.Errno, broken func(p program, c, parent class, t api.Type) bool) clause {
		return of(code, func(p program, i int) bool {
			t := p.Classes[i].Parents[k]
			return t.Kind == api.TClass && broken(p, p.Classes[i], p.Classes[t.Sym], t)
		})
	}
	return []clause{
		ofC(api.ErrKind, func(c class) bool { return c.Parents[k].Kind != api.TClass && (k > 0 || c.Parents[k].Kind != api.TAny) }),
		of(api.ErrRange, func(p program, i int) bool {
			t := p.Classes[i].Parents[k]
			return t.Kind == api.TClass && outside(t.Sym, len(p.Classes))
		}),
		ofP(api.ErrKind, func(_ program, c, parent class, _ api.Type) bool {
			if k == 0 {
				return parent.Kind == api.IsTrait || parent.Kind == api.IsObject || c.Kind == api.IsTrait
			}
			return parent.Kind != api.IsTrait
		}),
		ofP(api.ErrFinal, func(_ program, _, parent class, _ api.Type) bool { return parent.Flags&2 > 0 }),
		ofP(api.ErrArity, func(_ program, _, parent class, t api.Type) bool { return len(parent.TParams) != len(t.Args) }),
		ofP(api.ErrTwice, func(_ program, c, _ class, t api.Type) bool {
			return slices.ContainsFunc(c.Parents[:k], func(u api.Type) bool { return u.Kind == api.TClass && u.Sym == t.Sym })
		}),
		ofP(api.ErrInvalid, func(_ program, c, parent class, _ api.Type) bool { return c.Flags&32 > 0 && parent.Flags&32 > 0 }),
		ofC(api.ErrInvalid, func(c class) bool { return c.Flags&64 > 0 && c.Parents[0].Kind != api.TAny }),
	}
}

// localClauses are asked of the locals of a method in order.
func localClauses(k int) []clause {
	ofL := func(code api.Errno, broken func(l local) bool) clause {
		return ofM(code, func(m method) bool { return broken(m.Locals[k]) })
	}
	return []clause{
		ofL(api.ErrName, func(l local) bool { return !isNamed(l.Name) }),
		ofL(api.ErrInvalid, func(l local) bool { return others(l.Flags, 128, 256, 1024, 2048, 16384) }),
		ofM(api.ErrInvalid, func(m method) bool { return k < m.Params && others(m.Locals[k].Flags, 2048, 16384) }),
		ofL(api.ErrInvalid, func(l local) bool { return l.Flags&128 > 0 && l.Flags&256 > 0 }),
	}
}

func methodClauses() []clause {
	return []clause{
		ofM(api.ErrName, func(m method) bool { return !isNamed(m.Name) }),
		ofM(api.ErrInvalid, func(m method) bool { return others(m.Flags, 1, 2, 8, 16, 1024, 4096, 8192, 16384) }),
		ofM(api.ErrInvalid, func(m method) bool { return m.Flags&1 > 0 && m.Body != nil || m.Flags&1 == 0 && m.Body == nil }),
		ofM(api.ErrInvalid, func(m method) bool { return m.Flags&1 > 0 && (m.Flags&2 > 0 || m.Flags&8 > 0 || m.Flags&4096 > 0) }),
		of(api.ErrRange, func(p program, i int) bool {
			return p.Methods[i].Owner != -1 && outside(p.Methods[i].Owner, len(p.Classes))
		}),
		of(api.ErrRange, func(p program, i int) bool { return anyOutside(p.Methods[i].TParams, len(p.TParams)) }),
		ofM(api.ErrTwice, func(m method) bool { return repeated(m.TParams) }),
		ofM(api.ErrArity, func(m method) bool { return len(m.TParams) > 12 }),
		ofM(api.ErrArity, func(m method) bool { return m.Params < 0 || m.Params > 12 || m.Params > len(m.Locals) }),
		ofM(api.ErrLimit, func(m method) bool { return len(m.Locals) > 200 }),
	}
}

// placeClauses are asked of a method behind its locals.
func placeClauses() []clause {
	return []clause{
		ofM(api.ErrTwice, func(m method) bool {
			var names []string
			for _, l := range m.Locals[:m.Params] {
				names = append(names, l.Name)
			}
			return repeated(names)
		}),
		of(api.ErrInvalid, func(p program, i int) bool {
			return slices.ContainsFunc(p.Methods[i].TParams, func(j int) bool { return p.TParams[j].Method != i || p.TParams[j].Class != -1 })
		}),
		of(api.ErrNoEntry, func(p program, i int) bool {
			owner := p.Methods[i].Owner
			return owner != -1 && !slices.Contains(p.Classes[owner].Methods, i)
		}),
		of(api.ErrAbstract, func(p program, i int) bool {
			m := p.Methods[i]
			return m.Flags&1 > 0 && (m.Owner == -1 || p.Classes[m.Owner].Kind != api.IsTrait && p.Classes[m.Owner].Flags&1 == 0)
		}),
		ofM(api.ErrInvalid, func(m method) bool { return m.Flags&16 > 0 && m.Owner == -1 }),
	}
}

func fieldClauses() []clause {
	return []clause{
		ofF(api.ErrName, func(f field) bool { return !isNamed(f.Name) }),
		ofF(api.ErrInvalid, func(f field) bool { return others(f.Flags, 2, 8, 16, 128, 256, 512, 1024, 16384) }),
		ofF(api.ErrInvalid, func(f field) bool { return f.Flags&128 > 0 && f.Flags&256 > 0 }),
		ofF(api.ErrInvalid, func(f field) bool { return f.Flags&512 > 0 && f.Flags&128 == 0 }),
		of(api.ErrRange, func(p program, i int) bool { return outside(p.Fields[i].Owner, len(p.Classes)) }),
		of(api.ErrNoEntry, func(p program, i int) bool { return !slices.Contains(p.Classes[p.Fields[i].Owner].Fields, i) }),
		of(api.ErrInvalid, func(p program, i int) bool {
			return p.Fields[i].Flags&256 > 0 && slices.Contains(p.Classes[p.Fields[i].Owner].Params, i)
		}),
	}
}

func typeClauses() (params, members []clause) {
	params = []clause{
		of(api.ErrName, func(p program, i int) bool { return !isNamed(p.TParams[i].Name) }),
		of(api.ErrRange, func(p program, i int) bool { return outside(p.TParams[i].Variance+1, 3) }),
		of(api.ErrRange, func(p program, i int) bool { return outside(p.TParams[i].Arity, 13) }),
		of(api.ErrRange, func(p program, i int) bool {
			t := p.TParams[i]
			return !(!outside(t.Class, len(p.Classes)) && t.Method == -1) && !(t.Class == -1 && !outside(t.Method, len(p.Methods)))
		}),
		of(api.ErrNoEntry, func(p program, i int) bool {
			if t := p.TParams[i]; t.Class >= 0 {
				return !slices.Contains(p.Classes[t.Class].TParams, i)
			}
			return !slices.Contains(p.Methods[p.TParams[i].Method].TParams, i)
		}),
		of(api.ErrVariance, func(p program, i int) bool { return p.TParams[i].Method >= 0 && p.TParams[i].Variance != 0 }),
	}
	members = []clause{
		of(api.ErrName, func(p program, i int) bool { return !isNamed(p.Types[i].Name) }),
		of(api.ErrRange, func(p program, i int) bool { return outside(p.Types[i].Owner, len(p.Classes)) }),
		of(api.ErrRange, func(p program, i int) bool { return outside(p.Types[i].Arity, 13) }),
		of(api.ErrNoEntry, func(p program, i int) bool { return !slices.Contains(p.Classes[p.Types[i].Owner].Types, i) }),
	}
	return params, members
}

// nameClauses returns the clauses of rule 8.
func nameClauses() []listing {
	return []listing{
		{PClass, []clause{of(api.ErrTwice, func(p program, i int) bool {
			c := p.Classes[i]
			return slices.ContainsFunc(p.Classes[:i], func(d class) bool {
				return d.Owner == c.Owner && d.Name == c.Name && (d.Kind == api.IsObject) == (c.Kind == api.IsObject)
			})
		})}},
		{PField, []clause{of(api.ErrTwice, func(p program, i int) bool {
			return slices.ContainsFunc(p.Fields[:i], func(f field) bool { return f.Owner == p.Fields[i].Owner && f.Name == p.Fields[i].Name })
		})}},
		{PMethod, []clause{of(api.ErrTwice, func(p program, i int) bool {
			m := p.Methods[i]
			return m.Owner >= 0 && slices.ContainsFunc(p.Classes[m.Owner].Fields, func(j int) bool { return p.Fields[j].Name == m.Name })
		})}},
		{PTypeMember, []clause{of(api.ErrTwice, func(p program, i int) bool {
			return slices.ContainsFunc(p.Types[:i], func(t api.TypeMember) bool { return t.Owner == p.Types[i].Owner && t.Name == p.Types[i].Name })
		})}},
		{PTParam, []clause{of(api.ErrTwice, func(p program, i int) bool {
			t := p.TParams[i]
			return slices.ContainsFunc(p.TParams[:i], func(u api.TypeParam) bool { return u.Class == t.Class && u.Method == t.Method && u.Name == t.Name })
		})}},
	}
}

// isAbove reports whether a class is reached from another one by steps.
func isAbove(p program, from, to int, step func(i int) []int) bool {
	return slices.Contains(reached(len(p.Classes), from, step), to)
}

// listings returns the rules 2 to 8 for a program with at most that many parents and locals of a class and a method.
func listings(parents, locals int) []listing {
	owner := func(p program) func(int) []int {
		return func(i int) []int { return []int{p.Classes[i].Owner} }
	}
	above := func(p program) func(int) []int {
		return func(i int) []int { return parentsOf(p.Classes[i].Parents) }
	}
	isCase := func(p program, i int) bool { return p.Classes[i].Flags&32 > 0 }
	four := []clause{
		ofC(api.ErrEmpty, func(c class) bool { return len(c.Parents) == 0 }),
		ofC(api.ErrLimit, func(c class) bool { return len(c.Parents) > 12 }),
	}
	for k := range parents {
		for _, c := range parentClauses(k) {
			four = append(four, of(c.code, func(p program, i int) bool { return k < len(p.Classes[i].Parents) && c.broken(p, i) }))
		}
	}
	six := methodClauses()
	for k := range locals {
		for _, c := range localClauses(k) {
			six = append(six, of(c.code, func(p program, i int) bool { return k < len(p.Methods[i].Locals) && c.broken(p, i) }))
		}
	}
	params, members := typeClauses()
	return append([]listing{
		{PClass, classClauses()},
		{PClass, []clause{of(api.ErrCycle, func(p program, i int) bool { return isAbove(p, i, i, owner(p)) })}},
		{PClass, four},
		{PClass, []clause{
			of(api.ErrCycle, func(p program, i int) bool { return isAbove(p, i, i, above(p)) }),
			of(api.ErrInvalid, func(p program, i int) bool {
				return isCase(p, i) && slices.ContainsFunc(reached(len(p.Classes), i, above(p)), func(j int) bool { return isCase(p, j) })
			}),
		}},
		{PMethod, append(six, placeClauses()...)},
		{PField, fieldClauses()}, {PTParam, params}, {PTypeMember, members},
	}, nameClauses()...)
}

// byChapter returns the first fault by the list of the chapter.
func byChapter(p program, list []listing) Fault {
	for _, r := range list {
		for i := range sizes(p)[r.part] {
			for _, c := range r.clauses {
				if c.broken(p, i) {
					return Fault{r.part, i, c.code}
				}
			}
		}
	}
	if p.Main == -1 {
		return Fault{}
	}
	if outside(p.Main, len(p.Methods)) {
		return Fault{PMain, p.Main, api.ErrRange}
	}
	m := p.Methods[p.Main]
	if m.Params != 0 || len(m.TParams) != 0 || m.Body == nil || m.Owner != -1 && (p.Classes[m.Owner].Kind != api.IsObject || p.Classes[m.Owner].Owner != -1) {
		return Fault{PMain, p.Main, api.ErrInvalid}
	}
	return Fault{}
}

// index returns an index that may exist.
func (m maker) index(size int) int { return m.Intn(size+3) - 2 }

// number returns a number that may be right for something.
func (m maker) number() int { return []int{-2, -1, 0, 1, 2, 3, 12, 13}[m.Intn(8)] }

// text returns a name, or what looks like one.
func (m maker) text() string {
	return []string{"", "1", "C0", "C1", "x0", "x1", "T0", "m0", "m1", "a0", "a", "+", "+a", "apply", strings.Repeat("a", 65)}[m.Intn(15)]
}

// flag changes a flag, or sometimes all of them.
func (m maker) flag(flags *int) {
	*flags ^= 1 << m.Intn(16)
	if m.sometimes(20) {
		*flags = ^*flags
	}
}

// list changes a list of indices.
func (m maker) list(list *[]int, size int) {
	switch i := m.Intn(len(*list) + 1); {
	case i < len(*list) && m.sometimes(2):
		*list = slices.Delete(*list, i, i+1)
	case i < len(*list) && m.sometimes(2):
		(*list)[i] = m.index(size)
	case m.sometimes(9):
		for j := range 13 {
			*list = append(*list, min(j, size-1))
		}
	default:
		*list = slices.Insert(*list, i, m.index(size))
	}
}

// spoil changes something in a program.
func (m maker) spoil(p *program) {
	n := sizes(*p)
	part := 1 + m.Intn(PMain)
	switch {
	case m.sometimes(9):
		m.add(p)
		return
	case part == PMain || n[part] == 0:
		p.Main = m.index(n[PMethod])
		return
	}
	i := m.Intn(n[part])
	switch part {
	case PClass:
		m.spoilClass(p, i)
	case PMethod:
		m.spoilMethod(p, i)
	case PField:
		f := &p.Fields[i]
		m.oneOf(func() { f.Name = m.text() }, func() { f.Name = p.Fields[m.Intn(n[PField])].Name }, func() { m.flag(&f.Flags) }, func() { f.Owner = m.index(n[PClass]) })
	case PTParam:
		t := &p.TParams[i]
		m.oneOf(func() { t.Name = m.text() }, func() { t.Name = p.TParams[m.Intn(n[PTParam])].Name }, func() { t.Class = m.index(n[PClass]) }, func() { t.Method = m.index(n[PMethod]) }, func() { t.Variance = m.number() }, func() { t.Arity = m.number() })
	case PTypeMember:
		t := &p.Types[i]
		m.oneOf(func() { t.Name = m.text() }, func() { t.Name = p.Types[m.Intn(n[PTypeMember])].Name }, func() { t.Owner = m.index(n[PClass]) }, func() { t.Arity = m.number() })
	}
}

// add adds something that belongs to no list.
func (m maker) add(p *program) {
	owner := m.index(len(p.Classes))
	m.oneOf(
		func() { p.Methods = append(p.Methods, api.Method{Name: "m0", Owner: owner, Body: &api.Tree{}}) },
		func() { p.Fields = append(p.Fields, api.Field{Name: "x0", Owner: owner}) },
		func() {
			p.TParams = append(p.TParams, api.TypeParam{Name: "T0", Class: owner, Method: m.index(len(p.Methods))})
		},
		func() { p.TParams = append(p.TParams, api.TypeParam{Name: "T0", Class: owner, Method: -1}) },
		func() { p.Types = append(p.Types, api.TypeMember{Name: "T0", Owner: owner}) },
	)
}

func (m maker) oneOf(edits ...func()) { edits[m.Intn(len(edits))]() }

func (m maker) spoilClass(p *program, i int) {
	c, n := &p.Classes[i], sizes(*p)
	m.oneOf(
		func() { c.Name = m.text() }, func() { c.Kind = m.number() }, func() { m.flag(&c.Flags) }, func() { m.flag(&c.Flags) },
		func() { c.Owner = m.index(n[PClass]) },
		func() { m.list(&c.TParams, n[PTParam]) }, func() { m.list(&c.Params, n[PField]) }, func() { m.list(&c.Fields, n[PField]) },
		func() { m.list(&c.Methods, n[PMethod]) }, func() { m.list(&c.Types, n[PTypeMember]) },
		func() { m.spoilParents(p, c) }, func() { m.spoilParents(p, c) }, func() { m.spoilParents(p, c) },
	)
}

func (m maker) spoilParents(p *program, c *class) {
	if len(c.Parents) == 0 {
		c.Parents = append(c.Parents, anyType())
	}
	t := &c.Parents[m.Intn(len(c.Parents))]
	j := m.index(len(p.Classes))
	other := classType(j, 0)
	if j >= 0 && j < len(p.Classes) {
		other = classType(j, len(p.Classes[j].TParams))
	}
	m.oneOf(
		func() { c.Parents = nil }, func() { t.Kind = m.Intn(api.TKinds) }, func() { *t = other }, func() { *t = other },
		func() { c.Parents = append(c.Parents, other) }, func() { c.Parents = append(c.Parents, c.Parents[0]) }, func() { c.Parents = append(c.Parents, *t) },
		func() { t.Args = append(t.Args, anyType()) }, func() { t.Sym = j }, func() { c.Parents = slices.Repeat(c.Parents, 1+m.Intn(13)) },
	)
}

func (m maker) spoilMethod(p *program, i int) {
	d, n := &p.Methods[i], sizes(*p)
	edits := []func(){
		func() { d.Name = m.text() }, func() { m.flag(&d.Flags) }, func() { m.flag(&d.Flags) }, func() { d.Owner = m.index(n[PClass]) },
		func() { m.list(&d.TParams, n[PTParam]) }, func() { d.Params = m.number() }, func() { d.Body = nil }, func() { d.Body = &api.Tree{} },
		func() { d.Flags, d.Body = d.Flags&4096|1, nil }, func() { d.Locals = append(d.Locals, locals(m.Intn(203))...) },
	}
	for k := range d.Locals {
		l := &d.Locals[k]
		edits = append(edits, func() { l.Name = m.text() }, func() { m.flag(&l.Flags) })
	}
	m.oneOf(edits...)
}

func TestCheckByChapter(t *testing.T) {
	m := newMaker(2)
	list := listings(40, 210)
	found := map[Fault]int{}
	for i := range 60000 {
		p := m.program(1 + i%6)
		for range m.Intn(4) {
			m.spoil(&p)
		}
		want := byChapter(p, list)
		if f := Check(p); f != want {
			t.Fatalf("Check(%+v) = %v; want %v", p, f, want)
		}
		found[Fault{Part: want.Part, Code: want.Code}]++
	}
	for _, f := range allFaults() {
		if found[Fault{Part: f.want.Part, Code: f.want.Code}] == 0 {
			t.Errorf("the test is wrong: it never makes the fault %v", f.want)
		}
	}
}

// TestFlags tries all sums of few flags for all parts.
func TestFlags(t *testing.T) {
	list := listings(2, 3)
	check := func(p program) {
		if f, want := Check(p), byChapter(p, list); f != want {
			t.Fatalf("Check(%+v) = %v; want %v", p, f, want)
		}
	}
	for flags := -1; flags <= 2*api.Flags; flags++ {
		if flags > 0 && bits.OnesCount(uint(flags)) > 4 {
			continue
		}
		for _, class := range []int{top, aTrait, base, mainObject} {
			p := sample()
			p.Classes[class].Flags = flags
			check(p)
		}
		for _, method := range []int{traitAbstract, traitMethod, baseMethod, main, function} {
			p := sample()
			p.Methods[method].Flags = flags
			check(p)
		}
		p := sample()
		p.Fields[baseParam].Flags = flags
		check(p)
		p.Fields[baseParam].Flags, p.Fields[baseVar].Flags = 0, flags
		check(p)
		p = sample()
		p.Methods[function].Locals[0].Flags = flags
		check(p)
		p.Methods[function].Locals[0].Flags, p.Methods[function].Locals[2].Flags = 0, flags
		check(p)
	}
}

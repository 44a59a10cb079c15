package symbols

import (
	"reflect"
	"slices"
	"testing"

	"newel/api"
)

// P6.5 and P1: properties, of programs at random.

func TestRightPrograms(t *testing.T) {
	m := newMaker(3)
	for i := range 3000 {
		p := m.program(1 + i%12)
		if f := Check(p); f != (Fault{}) {
			t.Fatalf("the test is wrong: Check(%+v) = %v", p, f)
		}
		checkRelation(t, "Inside", p, func(i, j int) bool { return Inside(p, i, j) })
		checkRelation(t, "Ancestors", p, func(i, j int) bool { return slices.Contains(Ancestors(p, i), j) })
		names := map[string]bool{}
		for i, c := range p.Classes {
			for _, u := range c.Parents {
				if u.Kind == api.TClass && !slices.Contains(Children(p, u.Sym), i) {
					t.Errorf("%+v: Children(%d) lacks %d", p, u.Sym, i)
				}
			}
			if got := FindClass(p, c.Owner, c.Name, c.Kind == api.IsObject); got != i {
				t.Errorf("%+v: FindClass of %d = %d", p, i, got)
			}
			s, e := FullName(p, i)
			if e != api.OK || names[s] {
				t.Errorf("%+v: FullName(%d) = %q, %v", p, i, s, e)
			}
			names[s] = true
		}
		if s, e := Text(p); e != api.OK || (s == "") != (len(p.Classes)+len(p.Methods) == 0) {
			t.Errorf("Text(%+v) = %q, %v", p, s, e)
		}
	}
}

// checkRelation checks that a relation of the classes of a program is irreflexive and transitive.
func checkRelation(t *testing.T, name string, p api.Program, holds func(i, j int) bool) {
	t.Helper()
	n := len(p.Classes)
	for i := range n {
		for j := range n {
			if !holds(i, j) {
				continue
			}
			if i == j {
				t.Errorf("%+v: %s is not irreflexive: %d", p, name, i)
			}
			for k := range n {
				if holds(j, k) && !holds(i, k) {
					t.Errorf("%+v: %s is not transitive: %d, %d, %d", p, name, i, j, k)
				}
			}
		}
	}
}

// withoutSynthetic returns a program without the flag Synthetic.
func withoutSynthetic(p api.Program) api.Program {
	p = copied(p)
	for i := range p.Classes {
		p.Classes[i].Flags &^= api.Synthetic
	}
	for i := range p.Fields {
		p.Fields[i].Flags &^= api.Synthetic
	}
	for i := range p.Methods {
		p.Methods[i].Flags &^= api.Synthetic
		for j := range p.Methods[i].Locals {
			p.Methods[i].Locals[j].Flags &^= api.Synthetic
		}
	}
	return p
}

// withRoom returns a program whose lists have room behind their ends, in which other things are.
func withRoom(p api.Program) api.Program {
	room := func(list []int) []int { return append(slices.Clone(list), 77, 78)[:len(list)] }
	p = copied(p)
	p.Classes = append(p.Classes, api.Class{Name: "room"})[:len(p.Classes)]
	for i := range p.Classes {
		c := &p.Classes[i]
		c.TParams, c.Params, c.Fields, c.Methods, c.Types = room(c.TParams), room(c.Params), room(c.Fields), room(c.Methods), room(c.Types)
		c.Parents = append(c.Parents, classType(77, 0))[:len(c.Parents)]
	}
	return p
}

// beyond returns a program whose lists are as long as there is room for.
func beyond(p api.Program) api.Program {
	all := func(list []int) []int { return list[:cap(list)] }
	p.Classes = slices.Clone(p.Classes[:cap(p.Classes)])
	for i := range p.Classes {
		c := &p.Classes[i]
		c.TParams, c.Params, c.Fields, c.Methods, c.Types = all(c.TParams), all(c.Params), all(c.Fields), all(c.Methods), all(c.Types)
		c.Parents = c.Parents[:cap(c.Parents)]
	}
	return copied(p)
}

// results calls all functions with all indices, and what is near them.
func results(p api.Program) []reflect.Value {
	var out []any
	text, e := Text(p)
	out = append(out, Check(p), text, e)
	for i := -2; i < len(p.Classes)+2; i++ {
		name, e := FullName(p, i)
		out = append(out, name, e, Children(p, i), Ancestors(p, i))
		for j := -2; j < len(p.Classes)+2; j++ {
			out = append(out, Inside(p, i, j))
		}
		for _, s := range []string{"", "C0", "x0", "m0", "T0", "apply", "a"} {
			out = append(out, Declared(p, i, s), FindClass(p, i, s, false), FindClass(p, i, s, true))
		}
	}
	var values []reflect.Value
	for _, o := range out {
		values = append(values, reflect.ValueOf(o))
	}
	return values
}

// All functions have a result for all programs; it is always the same, is new memory, and no program is changed.
func TestAnyPrograms(t *testing.T) {
	m := newMaker(4)
	for i := range 2000 {
		p := m.program(1 + i%8)
		for range m.Intn(9) {
			m.spoil(&p)
		}
		p = withRoom(p)
		before := beyond(p)
		first, second := results(p), results(p)
		for i, a := range first {
			b := second[i]
			if !reflect.DeepEqual(a.Interface(), b.Interface()) {
				t.Fatalf("%+v: results differ: %v, %v", p, a, b)
			}
			if a.Kind() == reflect.Slice && a.Len() > 0 {
				a = a.Slice3(0, a.Cap(), a.Cap())
				reflect.Copy(a, reflect.MakeSlice(a.Type(), a.Cap(), a.Cap()))
				if b.Pointer() == a.Pointer() {
					t.Fatalf("%+v: two results share memory", p)
				}
			}
		}
		if !reflect.DeepEqual(beyond(p), before) {
			t.Fatalf("%+v was %+v", p, before)
		}
		if f, g := Check(p), Check(withoutSynthetic(p)); f != g {
			t.Fatalf("%+v: Check = %v, without Synthetic %v", p, f, g)
		}
	}
}

// nil and empty lists are the same.
func TestEmptyLists(t *testing.T) {
	p := sample()
	for i := range p.Classes {
		c := &p.Classes[i]
		for _, list := range []*[]int{&c.TParams, &c.Params, &c.Fields, &c.Methods, &c.Types} {
			if *list == nil {
				*list = []int{}
			}
		}
		c.Supers, c.Init = []api.Tree{}, []api.Tree{}
	}
	for i := range p.Methods {
		if m := &p.Methods[i]; m.TParams == nil {
			m.TParams, m.Locals = []int{}, slices.Grow(m.Locals, 0)
		}
	}
	mustBe(t, "the sample with empty lists", p, Fault{})
	mustWrite(t, p, sampleText)
	p = api.Program{Classes: []api.Class{}, Methods: []api.Method{}, Fields: []api.Field{}, TParams: []api.TypeParam{}, Types: []api.TypeMember{}, Main: -1}
	mustBe(t, "a program with empty tables", p, Fault{})
	mustWrite(t, p, "")
}

// Tables and lists may have any size, also where a program with them is not right.
func TestLargePrograms(t *testing.T) {
	const size = 200000
	p := api.Program{Main: -1}
	for i := range size {
		p.Classes = append(p.Classes, api.Class{Name: "C", Owner: i + 1, Parents: []api.Type{classType(i+1, 0)}})
	}
	mustBe(t, "many classes", p, Fault{0, 0, api.ErrLimit})
	if got := Ancestors(p, 0); len(got) != size-1 || got[0] != 1 || got[size-2] != size-1 {
		t.Errorf("Ancestors = %d classes", len(got))
	}
	if !Inside(p, 0, size-1) || Inside(p, size-1, 0) || FindClass(p, size, "C", false) != size-1 {
		t.Error("Inside and FindClass in a program with many classes")
	}
	p = sample()
	p.Classes[top].Fields = make([]int, size)
	mustBe(t, "a class with a field many times", p, Fault{PClass, top, api.ErrTwice})
	if got := Declared(p, top, "message"); len(got) != size {
		t.Errorf("Declared = %d members", len(got))
	}
	p = sample()
	p.Classes[top].Parents = slices.Repeat([]api.Type{classType(base, 0)}, size)
	mustBe(t, "a class with a parent many times", p, Fault{PClass, top, api.ErrLimit})
	if got := Children(p, base); !slices.Equal(got, []int{top, inner, companion}) {
		t.Errorf("Children = %v", got)
	}
	p = sample()
	p.Methods[main].TParams = make([]int, size)
	mustBe(t, "a method with a type parameter many times", p, Fault{PMethod, main, api.ErrTwice})
}

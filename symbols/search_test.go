package symbols

import (
	"slices"
	"strconv"
	"testing"

	"newel/api"
)

// P6.2: searches, also in programs that are not right.

// owners returns a program whose classes C0, C1 .. have these owners.
func owners(list ...int) api.Program {
	p := api.Program{Main: -1}
	for i, owner := range list {
		p.Classes = append(p.Classes, api.Class{Name: "C" + strconv.Itoa(i), Owner: owner, Parents: []api.Type{anyType()}})
	}
	return p
}

// parents returns a program whose classes have the parents in these lists.
func parents(lists ...[]int) api.Program {
	p := owners(slices.Repeat([]int{-1}, len(lists))...)
	for i, list := range lists {
		for _, c := range list {
			p.Classes[i].Parents = append(p.Classes[i].Parents, classType(c, 0))
		}
	}
	return p
}

// far has indices that no program has.
var far = []int{-1, -2, 7, 100, -1 << 63, 1<<63 - 1}

func TestFindClass(t *testing.T) {
	p := sample()
	p.Classes = append(p.Classes, api.Class{Name: "Inner", Kind: api.IsTrait, Owner: mainObject}, api.Class{Name: "Inner", Kind: api.IsObject, Owner: mainObject}, api.Class{Name: "", Kind: 9, Owner: -1})
	for _, c := range []struct {
		owner  int
		name   string
		object bool
		want   int
	}{
		{-1, "Top", false, top}, {-1, "Top", true, -1}, {-1, "Trait", false, aTrait}, {-1, "Trait", true, -1}, {-1, "Main", true, mainObject}, {-1, "Main", false, -1},
		{mainObject, "Inner", false, inner}, {mainObject, "Inner", true, companion}, {-1, "Inner", false, -1}, {-1, "Inner", true, -1}, {inner, "Inner", false, -1},
		{mainObject, "Value", false, value}, {mainObject, "Main", true, -1}, {-1, "", false, 9}, {-1, "", true, -1}, {-1, "top", false, -1}, {-1, "Top#", false, -1}, {-2, "Top", false, -1}, {99, "Top", false, -1}, {-1 << 63, "Top", false, -1},
	} {
		if got := FindClass(p, c.owner, c.name, c.object); got != c.want {
			t.Errorf("FindClass(%d, %q, %v) = %d; want %d", c.owner, c.name, c.object, got, c.want)
		}
	}
	if got := FindClass(api.Program{}, -1, "", false); got != -1 {
		t.Errorf("FindClass without classes = %d", got)
	}
}

func TestDeclared(t *testing.T) {
	p := sample()
	c := &p.Classes[mainObject]
	grow(&p, PField, 9)
	grow(&p, PTypeMember, 6)
	grow(&p, PMethod, 9)
	for i := 5; i < 9; i++ {
		p.Fields[i].Name = "x"
		p.Methods[i].Name = "x"
	}
	p.Types[3].Name, p.Types[4].Name = "x", "x"
	// Indices that do not exist stand in between, and others that are of other classes, or not of this name.
	c.Fields, c.Methods, c.Types = []int{8, 99, 5, -1, baseVar, 6}, []int{-7, 7, 1 << 40, main, 5}, []int{4, 2, 6, 3, traitType}
	for _, d := range []struct {
		class int
		name  string
		want  []api.Ref
	}{
		{mainObject, "x", []api.Ref{{Kind: api.RefField, Index: 8}, {Kind: api.RefField, Index: 5}, {Kind: api.RefField, Index: 6}, {Kind: api.RefMethod, Index: 7}, {Kind: api.RefMethod, Index: 5}, {Kind: api.RefType, Index: 4}, {Kind: api.RefType, Index: 3}}},
		{mainObject, "main", []api.Ref{{Kind: api.RefMethod, Index: main}}},
		{mainObject, "v", []api.Ref{{Kind: api.RefField, Index: baseVar}}},
		{mainObject, "n2", []api.Ref{{Kind: api.RefType, Index: 2}}},
		{mainObject, "X", nil}, {mainObject, "", nil}, {mainObject, "Inner", nil}, {mainObject, "h", nil},
		{aTrait, "Out", []api.Ref{{Kind: api.RefType, Index: traitType}}}, {aTrait, "f", []api.Ref{{Kind: api.RefMethod, Index: traitAbstract}}}, {aTrait, "T", nil},
		{base, "f", []api.Ref{{Kind: api.RefMethod, Index: baseMethod}}}, {base, "g", nil}, {base, "message", nil}, {base, "p", []api.Ref{{Kind: api.RefField, Index: baseParam}}},
		{inner, "p", nil}, {inner, "q", []api.Ref{{Kind: api.RefField, Index: innerParam}}},
	} {
		if got := Declared(p, d.class, d.name); !slices.Equal(got, d.want) {
			t.Errorf("Declared(%d, %q) = %v; want %v", d.class, d.name, got, d.want)
		}
	}
	for _, class := range far {
		if got := Declared(p, class, "x"); len(got) > 0 {
			t.Errorf("Declared(%d) = %v", class, got)
		}
	}
}

func TestChildrenAndAncestors(t *testing.T) {
	p := sample()
	for class, want := range []struct{ children, ancestors []int }{
		{[]int{base}, nil}, {[]int{base, value}, nil}, {[]int{inner, companion}, []int{top, aTrait}}, {nil, nil}, {nil, []int{top, aTrait, base}}, {nil, []int{aTrait}}, {nil, []int{top, aTrait, base}},
	} {
		if got := Children(p, class); !slices.Equal(got, want.children) {
			t.Errorf("Children(%d) = %v; want %v", class, got, want.children)
		}
		if got := Ancestors(p, class); !slices.Equal(got, want.ancestors) {
			t.Errorf("Ancestors(%d) = %v; want %v", class, got, want.ancestors)
		}
	}
	for _, class := range far {
		if Children(p, class) != nil || Ancestors(p, class) != nil {
			t.Errorf("Children and Ancestors of %d = %v, %v", class, Children(p, class), Ancestors(p, class))
		}
	}
}

func TestChildrenAndAncestorsOfWrongPrograms(t *testing.T) {
	// 0 has itself, 1 has 2 and 2 has 1; 3 has 1; 4 has what does not exist; 5 has 4 three times; 6 has 3 and 5.
	p := parents([]int{0}, []int{2}, []int{1}, []int{1}, []int{-1, 99, 7}, []int{4, 4, 4}, []int{5, 3})
	for class, want := range []struct{ children, ancestors []int }{
		{[]int{0}, []int{0}}, {[]int{2, 3}, []int{1, 2}}, {[]int{1}, []int{1, 2}}, {[]int{6}, []int{1, 2}}, {[]int{5}, nil}, {[]int{6}, []int{4}}, {nil, []int{1, 2, 3, 4, 5}},
	} {
		if got := Children(p, class); !slices.Equal(got, want.children) {
			t.Errorf("Children(%d) = %v; want %v", class, got, want.children)
		}
		if got := Ancestors(p, class); !slices.Equal(got, want.ancestors) {
			t.Errorf("Ancestors(%d) = %v; want %v", class, got, want.ancestors)
		}
	}
	for _, class := range far {
		if Children(p, class) != nil || Ancestors(p, class) != nil {
			t.Errorf("Children and Ancestors of %d = %v, %v", class, Children(p, class), Ancestors(p, class))
		}
	}
}

// Only parents of the kind TClass count, however they look otherwise.
func TestParentsOfOtherKinds(t *testing.T) {
	for kind := -1; kind <= api.TKinds; kind++ {
		p := parents([]int{}, []int{})
		p.Classes[1].Parents = []api.Type{{Kind: kind, Sym: 0, Num: 3, Args: []api.Type{classType(0, 0)}}}
		want := 0
		if kind == api.TClass {
			want = 1
		}
		if len(Children(p, 0)) != want || len(Ancestors(p, 1)) != want {
			t.Errorf("with a parent of the kind %d: %v, %v", kind, Children(p, 0), Ancestors(p, 1))
		}
	}
}

func TestInside(t *testing.T) {
	p := sample()
	p.Classes = append(p.Classes, api.Class{Owner: inner}, api.Class{Owner: 7}, api.Class{Owner: 99}, api.Class{Owner: 9})
	is := map[[2]int]bool{{inner, mainObject}: true, {value, mainObject}: true, {companion, mainObject}: true, {7, inner}: true, {7, mainObject}: true, {8, 7}: true, {8, inner}: true, {8, mainObject}: true, {10, 9}: true}
	for i := -2; i < len(p.Classes)+2; i++ {
		for j := -2; j < len(p.Classes)+2; j++ {
			if got := Inside(p, i, j); got != is[[2]int{i, j}] {
				t.Errorf("Inside(%d, %d) = %v", i, j, got)
			}
		}
	}
	for _, i := range far {
		if Inside(p, i, mainObject) && i != 7 || Inside(p, inner, i) || Inside(p, 9, i) {
			t.Errorf("Inside with %d", i)
		}
	}
}

func TestInsideOfCycles(t *testing.T) {
	p := owners(0, 2, 1, 1, 3, -1)
	is := [][]bool{
		{true, false, false, false, false, false},
		{false, true, true, false, false, false},
		{false, true, true, false, false, false},
		{false, true, true, false, false, false},
		{false, true, true, true, false, false},
		{false, false, false, false, false, false},
	}
	for i := range p.Classes {
		for j := range p.Classes {
			if got := Inside(p, i, j); got != is[i][j] {
				t.Errorf("Inside(%d, %d) = %v", i, j, got)
			}
		}
	}
}

// reached returns what can be reached from an index by steps to others, in increasing order.
func reached(size, from int, step func(int) []int) []int {
	is := make([]bool, size)
	for changed := true; changed; {
		changed = false
		for i := range size {
			if i != from && !is[i] {
				continue
			}
			for _, j := range step(i) {
				if j >= 0 && j < size && !is[j] {
					is[j], changed = true, true
				}
			}
		}
	}
	var out []int
	for i := range is {
		if is[i] {
			out = append(out, i)
		}
	}
	return out
}

// All searches are what their definitions say, for tables at random, with cycles and indices that do not exist.
func TestSearchesAtRandom(t *testing.T) {
	m := newMaker(1)
	for range 3000 {
		size := m.Intn(8)
		p := api.Program{}
		for i := range size {
			c := api.Class{Name: "C" + strconv.Itoa(m.Intn(3)), Kind: m.Intn(4), Owner: m.Intn(size+2) - 1}
			for range m.Intn(3) {
				c.Parents = append(c.Parents, api.Type{Kind: []int{api.TClass, api.TClass, api.TAny, api.TThis}[m.Intn(4)], Sym: m.Intn(size+2) - 1})
			}
			if m.sometimes(3) {
				c.Owner = m.Intn(i + 1)
			}
			p.Classes = append(p.Classes, c)
		}
		owner := func(i int) []int { return []int{p.Classes[i].Owner} }
		checkSearches(t, p, owner)
	}
}

func checkSearches(t *testing.T, p api.Program, owner func(int) []int) {
	t.Helper()
	size := len(p.Classes)
	above := func(i int) (list []int) {
		for _, t := range p.Classes[i].Parents {
			if t.Kind == api.TClass {
				list = append(list, t.Sym)
			}
		}
		return list
	}
	for i := range size {
		outer := reached(size, i, owner)
		for j := -1; j <= size; j++ {
			if got := Inside(p, i, j); got != slices.Contains(outer, j) {
				t.Fatalf("%+v: Inside(%d, %d) = %v", p, i, j, got)
			}
		}
		if got := Ancestors(p, i); !slices.Equal(got, reached(size, i, above)) {
			t.Fatalf("%+v: Ancestors(%d) = %v", p, i, got)
		}
		var children []int
		for j := range size {
			if slices.Contains(above(j), i) {
				children = append(children, j)
			}
		}
		if got := Children(p, i); !slices.Equal(got, children) {
			t.Fatalf("%+v: Children(%d) = %v; want %v", p, i, got, children)
		}
		isCycle := slices.Contains(outer, i) || slices.ContainsFunc(outer, func(j int) bool { return slices.Contains(reached(size, j, owner), j) })
		if s, e := FullName(p, i); isCycle != (e == api.ErrCycle) || !isCycle && (e != api.OK || len(s) < 2) {
			t.Fatalf("%+v: FullName(%d) = %q, %v", p, i, s, e)
		}
	}
}

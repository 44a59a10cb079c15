package types

import (
	"math"
	"slices"
	"sort"
	"strings"
	"testing"

	"newel/api"
)

// P7.1: Size, Depth, Free, Vars, Compare and Equal.

// levels is another way to find the depth.
func levels(t api.Type) int {
	most := 0
	for _, a := range t.Args {
		most = max(most, levels(a))
	}
	return most + 1
}

// shared returns a type with that many levels, each with the same Args twice: more nodes than can be counted.
func shared(levels int, leaf api.Type) api.Type {
	for range levels - 1 {
		leaf = and(leaf, leaf)
	}
	return leaf
}

func TestSizeAndDepth(t *testing.T) {
	for _, c := range []struct {
		what        string
		t           api.Type
		size, depth int
	}{
		{"nothing", api.Type{}, 1, 1},
		{"one node", intT, 1, 1},
		{"two nodes", array(intT), 2, 2},
		{"a function", fun(array(intT), intT, fun(intT)), 6, 3},
		{"depth behind", fun(intT, array(array(intT))), 5, 4},
		{"depth in front", fun(array(array(intT)), intT), 5, 4},
		{"2000 nodes", wide(2000), 2000, levels(wide(2000))},
		{"2001 nodes", wide(2001), 2001, levels(wide(2001))},
		{"2002 nodes", wide(2002), 2001, levels(wide(2002))},
		{"3000 nodes", fun(times(2999, intT)...), 2001, 2},
		{"63 levels", nested(62, intT), 63, 63},
		{"64 levels", nested(63, intT), 64, 64},
		{"65 levels", nested(64, intT), 65, 65},
		{"66 levels", nested(65, intT), 66, 65},
		{"2500 levels", nested(2499, intT), 2001, 65},
		{"many nodes, few levels", shared(12, intT), 2001, 12},
		{"shared Args on 64 levels", shared(64, intT), 2001, 64},
		{"shared Args on 200 levels", shared(200, intT), 2001, 65},
		{"endless", endless(), 2001, 65},
		{"depth behind many nodes", fun(append(times(5000, intT), nested(40, intT))...), 2001, 42},
	} {
		if n := Size(c.t); n != c.size {
			t.Errorf("Size of a type with %s = %d; want %d", c.what, n, c.size)
		}
		if n := Depth(c.t); n != c.depth {
			t.Errorf("Depth of a type with %s = %d; want %d", c.what, n, c.depth)
		}
	}
	m := newMaker(2)
	for range 3000 {
		a, size := m.junk(8), 0
		walk(a, func(api.Type) { size++ })
		if n := Size(a); n != min(size, MaxSize+1) {
			t.Errorf("Size(%s) = %d; want %d", words(a), n, size)
		}
		if n := Depth(a); n != levels(a) {
			t.Errorf("Depth(%s) = %d; want %d", words(a), n, levels(a))
		}
	}
}

// TestSubLists checks that lists that begin at the same place, but have other lengths, are different ones.
func TestSubLists(t *testing.T) {
	list := []api.Type{intT, nested(5, intT)}
	a := fun(fun(list[:1]...), fun(list...))
	if n := Depth(a); n != 8 {
		t.Errorf("Depth of a type with a part of a list = %d; want 8", n)
	}
}

// isFreeIn is another way to say whether a TBound is free: binders is how many are around.
func isFreeIn(t api.Type, binders int) bool {
	switch t.Kind {
	case api.TBound:
		if t.Sym < 0 || t.Sym >= binders {
			return true
		}
	case api.TLambda:
		return len(t.Args) > 0 && (isFreeIn(t.Args[0], binders+1) || slices.ContainsFunc(t.Args[1:], func(a api.Type) bool { return isFreeIn(a, binders) }))
	case api.TMatch:
		return len(t.Args) > 0 && (isFreeIn(t.Args[0], binders) || slices.ContainsFunc(t.Args[1:], func(a api.Type) bool { return isFreeIn(a, binders+1) }))
	}
	return slices.ContainsFunc(t.Args, func(a api.Type) bool { return isFreeIn(a, binders) })
}

func TestFree(t *testing.T) {
	for _, c := range []struct {
		t    api.Type
		want bool
	}{
		{intT, false},
		{bound(0, 0), true},
		{bound(0, -1), true},
		{array(bound(5, 3)), true},
		{lambda(1, bound(0, 0)), false},
		{lambda(1, bound(7, 0)), false},
		{lambda(1, bound(0, 1)), true},
		{lambda(1, bound(0, -1)), true},
		{lambda(1, bound(0, math.MaxInt)), true},
		{lambda(1, bound(0, math.MinInt)), true},
		{lambda(2, lambda(1, bound(0, 1))), false},
		{lambda(2, lambda(1, bound(0, 2))), true},
		{match(1, bound(0, 0), intT, intT), true},
		{match(1, intT, bound(0, 0), intT), false},
		{match(0, intT, bound(0, 0), intT), false},
		{match(1, intT, intT, bound(0, 0)), false},
		{match(1, intT, intT, bound(0, 1)), true},
		{match(1, intT, intT, intT, intT, bound(0, 0)), false},
		{lambda(1, match(1, bound(0, 0), bound(0, 1), bound(0, 0))), false},
		{lambda(1, match(1, bound(0, 1), intT, intT)), true},
		{fun(lambda(1, bound(0, 0)), bound(0, 0)), true},
		{fun(bound(0, 0), lambda(1, bound(0, 0))), true},
		{wide(2000), false},
		{wide(2001), true},
		{nested(63, intT), false},
		{nested(64, intT), true},
		{endless(), true},
	} {
		if got := Free(c.t); got != c.want {
			t.Errorf("Free(%.200s) = %v", words(nestedHead(c.t)), got)
		}
	}
	m, count := newMaker(3), 0
	for range 20000 {
		a := m.proper(5, []int{2, 1})
		if m.sometimes(3) {
			a = m.junk(6)
		}
		want := isFreeIn(a, 0)
		if got := Free(a); got != want {
			t.Fatalf("Free(%s) = %v", words(a), got)
		}
		if want {
			count++
		}
	}
	if count < 500 || count > 15000 {
		t.Errorf("%d of 20000 types are free", count)
	}
}

// nestedHead returns a type that can be shown.
func nestedHead(t api.Type) api.Type {
	if Depth(t) > api.MaxNest || Size(t) > MaxSize {
		t.Args = nil
	}
	return t
}

func TestVars(t *testing.T) {
	for _, c := range []struct {
		t    api.Type
		want []int
	}{
		{intT, nil},
		{variable(3), []int{3}},
		{fun(variable(3), variable(10), variable(3), variable(2)), []int{2, 3, 10}},
		{fun(array(variable(99)), variable(0)), []int{0, 99}},
		{lambda(1, match(1, variable(7), variable(6), array(variable(5)))), []int{5, 6, 7}},
		{fun(variable(-1), variable(200)), []int{-1, 200}},
		{withNum(withSym(intT, 4), 4), nil},
		{fun(append(times(1998, intT), variable(1))...), []int{1}},
		{fun(append(times(1999, intT), variable(1))...), nil},
		{nested(63, variable(1)), []int{1}},
		{nested(64, variable(1)), nil},
		{endless(), nil},
	} {
		if got := Vars(c.t); !slices.Equal(got, c.want) {
			t.Errorf("Vars(%.200s) = %v; want %v", words(nestedHead(c.t)), got, c.want)
		}
	}
}

// inOrder has types in increasing order.
func inOrder() []api.Type {
	return []api.Type{
		{Kind: math.MinInt, Sym: 9},
		{Kind: -1},
		{},
		anyT,
		{Kind: api.TInt, Sym: math.MinInt},
		{Kind: api.TInt, Sym: -1, Name: "z"},
		intT,
		{Kind: api.TInt, Num: 1},
		{Kind: api.TInt, Num: 1, Args: []api.Type{anyT}},
		{Kind: api.TInt, Num: 2},
		{Kind: api.TInt, Name: "\x00", Num: -5},
		{Kind: api.TInt, Name: "A", Num: 7},
		{Kind: api.TInt, Name: "AB"},
		{Kind: api.TInt, Name: "a"},
		{Kind: api.TInt, Name: "\xff"},
		{Kind: api.TInt, Sym: 1},
		class(0, intT),
		class(0, intT, anyT),
		class(0, anyT, anyT, anyT),
		class(1),
		param(3),
		and(anyT, intT),
		and(intT, anyT),
		and(intT, array(anyT)),
		and(intT, array(intT)),
		and(array(anyT), anyT),
		or(anyT, anyT),
		array(longT),
		array(array(anyT)),
		{Kind: math.MaxInt},
	}
}

func TestCompare(t *testing.T) {
	list := inOrder()
	for i, a := range list {
		for j, b := range list {
			want := 0
			if i < j {
				want = -1
			} else if i > j {
				want = 1
			}
			if got := Compare(a, cloned(b)); got != want {
				t.Errorf("Compare(%s, %s) = %d; want %d", words(a), words(b), got, want)
			}
			if got := Equal(a, cloned(b)); got != (i == j) {
				t.Errorf("Equal(%s, %s) = %v", words(a), words(b), got)
			}
		}
	}
	empty := api.Type{Kind: api.TInt, Args: []api.Type{}}
	if Compare(intT, empty) != 0 || !Equal(empty, intT) {
		t.Error("no Args and empty Args are different")
	}
}

// TestCompareLevels checks that deeper nodes count as equal: the Kind on the level 64 is looked at, and the number of Args, but not what they are.
func TestCompareLevels(t *testing.T) {
	for n, want := range map[int]int{1: -1, 10: -1, 62: -1, 63: -1, 64: 0, 65: 0, 100: 0} {
		if got := Compare(nested(n, intT), nested(n, longT)); got != want {
			t.Errorf("Compare of types that differ on the level %d = %d; want %d", n+1, got, want)
		}
		if got := Compare(nested(n, fun(intT, intT)), nested(n, fun(intT))); got != -want {
			t.Errorf("Compare of types that differ in the number of Args on the level %d = %d; want %d", n+1, got, -want)
		}
	}
}

// TestCompareShared checks types with more nodes than can be counted.
func TestCompareShared(t *testing.T) {
	for _, n := range []int{20, 63, 64} {
		if got := Compare(shared(n, intT), shared(n, intT)); got != 0 {
			t.Errorf("Compare of equal types with %d levels = %d", n, got)
		}
		if got := Compare(shared(n, intT), shared(n, longT)); got != -1 {
			t.Errorf("Compare of different types with %d levels = %d; want -1", n, got)
		}
		last := shared(n, intT)
		last.Args = []api.Type{last.Args[0], shared(n-1, longT)}
		if got := Compare(last, shared(n, intT)); got != 1 {
			t.Errorf("Compare of types that differ in the last node of %d levels = %d; want 1", n, got)
		}
	}
	if got := Compare(shared(65, intT), shared(65, longT)); got != 0 {
		t.Errorf("Compare of types that differ on the level 65 = %d; want 0", got)
	}
	if got := Compare(endless(), endless()); got != 0 {
		t.Errorf("Compare of endless types = %d", got)
	}
	// The same lists are compared on different levels: only on one of them the difference is too deep.
	leaf, other := nested(10, intT), nested(10, longT)
	low := func(t api.Type) api.Type { return fun(append(times(2500, intT), nested(60, t), t)...) }
	if got := Compare(low(leaf), low(other)); got != -1 {
		t.Errorf("Compare of types that differ on two levels = %d; want -1", got)
	}
	list := times(3000, intT)
	if got := Compare(fun(list[:2999]...), fun(list...)); got != -1 {
		t.Errorf("Compare of a list and a part of it = %d; want -1", got)
	}
}

// TestCompareAtRandom checks that Compare is a total order, and what it is.
func TestCompareAtRandom(t *testing.T) {
	m := newMaker(4)
	var list []api.Type
	for range 150 {
		list = append(list, m.junk(3), m.proper(3, nil))
	}
	for range 100 {
		list = append(list, m.spoiled(list[m.Intn(len(list))]))
	}
	var keys []string
	for _, a := range list {
		keys = append(keys, key(a))
	}
	for i, a := range list {
		for j, b := range list {
			want := strings.Compare(keys[i], keys[j])
			if got := Compare(a, b); got != want {
				t.Fatalf("Compare(%s, %s) = %d; want %d", words(a), words(b), got, want)
			}
		}
	}
	sort.Slice(list, func(i, j int) bool { return Compare(list[i], list[j]) < 0 })
	for i := range list[1:] {
		if Compare(list[i], list[i+1]) > 0 || key(list[i]) > key(list[i+1]) {
			t.Fatalf("%s stands in front of %s", words(list[i]), words(list[i+1]))
		}
	}
}

// key is a text that has its place among others where the type has it among types: all names here are shorter than 10 bytes.
func key(t api.Type) string {
	number := func(n int) string {
		s := digitsOf(n + 1000)
		return strings.Repeat("0", 5-len(s)) + s
	}
	s := number(t.Kind) + number(t.Sym) + t.Name + strings.Repeat("\x00", 10-len(t.Name)) + number(t.Num) + number(len(t.Args))
	for _, a := range t.Args {
		s += key(a)
	}
	return s
}

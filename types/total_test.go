package types

import (
	"math"
	"slices"
	"strings"
	"testing"

	"newel/api"
	"newel/symbols"
)

// P1 and the rules: every function has a result for all arguments, changes none of them, and gives new memory.

// strange returns types that are hard to look at: wrong, endless, huge.
func strange() []api.Type {
	list := []api.Type{
		{}, {Kind: math.MinInt}, {Kind: math.MaxInt}, {Kind: -1, Args: []api.Type{{}, {}}},
		endless(), shared(64, intT), shared(200, bound(0, 0)), nested(10000, intT), fun(times(100000, param(0))...), withArgs(class(0), times(100000, nested(3, variable(0)))...),
		nested(63, endless()), lambda(1, endless()), lambda(1, shared(60, bound(0, 0))), apply(lambda(1, bound(0, 0)), endless()), match(1, endless(), endless(), endless()),
		bound(math.MinInt, math.MinInt), bound(math.MaxInt, math.MaxInt), lambda(math.MinInt, bound(-1, -1)), lambda(math.MaxInt, bound(5, math.MaxInt)), match(math.MaxInt, bound(1, math.MaxInt)), match(math.MinInt),
		lambda(1, lambda(1, fun(bound(0, math.MaxInt), bound(0, math.MinInt), bound(0, -1)))),
		withName(intT, strings.Repeat("a", 1<<20)), refine(intT, strings.Repeat("a", 1<<20), intT, intT),
	}
	for kind := -1; kind <= api.TKinds; kind++ {
		for _, sym := range []int{math.MinInt, -1, 0, 1, math.MaxInt} {
			list = append(list, api.Type{Kind: kind, Sym: sym}, api.Type{Kind: kind, Num: sym, Args: times(2, anyT)}, api.Type{Kind: kind, Sym: sym, Num: sym, Args: times(3, bound(0, sym))})
		}
		for n := range 25 {
			list = append(list, api.Type{Kind: kind, Args: times(n, api.Type{Kind: kind})})
		}
	}
	return list
}

// strangeEnvs returns programs that are hard to look at.
func strangeEnvs() []api.Env {
	envs := []api.Env{{}, sampleEnv(), {P: sample()}}
	env := sampleEnv()
	env.P.Classes[mainObject].Owner, env.P.Classes[nest].Owner = deep, deep
	env.P.Classes[box].TParams, env.P.Classes[pair].TParams = []int{-1}, []int{99, math.MaxInt}
	env.P.Classes[plus].Owner, env.P.Classes[inner].Owner = math.MaxInt, math.MinInt
	env.P.Classes[aTrait].Name, env.P.Classes[plus].Name = "", strings.Repeat("a", 1<<20)
	env.P.TParams[0].Arity, env.P.Types[1].Arity = math.MinInt, math.MaxInt
	env.P.Fields, env.Locals = nil, []api.Local{{Flags: -1}, {Flags: math.MinInt, Type: endless()}}
	return append(envs, env)
}

func TestAllArguments(t *testing.T) {
	for _, env := range strangeEnvs() {
		for _, a := range strange() {
			if e := Check(env, a); e < 0 || e >= api.Errnos {
				t.Errorf("Check = %v", e)
			}
			Arity(env, a)
			if s, e := Text(env, a); e != api.OK && s != "" || e != Check(env, a) && e != api.ErrCycle && e != api.ErrLimit {
				t.Errorf("Text = %.20q, %v", s, e)
			}
		}
		for _, s := range []string{"", "(", "Main#[]", ".[]", "[]", "#[]", "T'0", "x@0", "Box[Int]", "Pair[Int, Int]", "F'2(Int)", "this(Main#.Nest#.Deep)", "\x00", strings.Repeat("a", api.MaxText), strings.Repeat("a.", api.MaxText/2), strings.Repeat("9", api.MaxText)} {
			if got, f := Read(env, s); f.Code != api.OK && !same(got, api.Type{}) || f.At != 0 {
				t.Errorf("Read(%.20q) = %v", s, f)
			}
		}
		CheckAll(env.P)
	}
	list := strange()
	for i, a := range list {
		Size(a)
		Depth(a)
		Free(a)
		Vars(a)
		if got, e := Normal(a); e != api.OK && !same(got, api.Type{}) {
			t.Errorf("Normal = %v", e)
		}
		others := []api.Type{a, list[(i*7+3)%len(list)]}
		if got, e := Subst(a, []int{0, 1}, others); e != api.OK && !same(got, api.Type{}) {
			t.Errorf("Subst = %v", e)
		}
		for _, args := range [][]api.Type{nil, others[:1], others} {
			if got, e := Open(a, args); e != api.OK && !same(got, api.Type{}) {
				t.Errorf("Open = %v", e)
			}
			for _, k := range []int{math.MinInt, -1, 0, 1, math.MaxInt} {
				if p, b, e := OpenCase(a, k, args); e != api.OK && (!same(p, api.Type{}) || !same(b, api.Type{})) {
					t.Errorf("OpenCase = %v", e)
				}
			}
		}
	}
	for _, a := range list {
		for _, b := range list[:40] {
			if Compare(a, b) != -Compare(b, a) {
				t.Errorf("Compare of %.50s and another type in both orders", words(nestedHead(a)))
			}
		}
	}
}

// roomy returns a copy of a type whose lists have room behind their ends, and what stands there.
func roomy(t api.Type, mark api.Type) api.Type {
	args := make([]api.Type, len(t.Args), len(t.Args)+2)
	for i, a := range t.Args {
		args[i] = roomy(a, mark)
	}
	for i := range 2 {
		args[:cap(args)][len(args)+i] = mark
	}
	t.Args = args
	return t
}

// isKept reports whether nothing stands behind the ends of lists but the mark.
func isKept(t api.Type, mark api.Type) bool {
	for _, a := range t.Args {
		if !isKept(a, mark) {
			return false
		}
	}
	for _, a := range t.Args[len(t.Args):cap(t.Args)] {
		if !same(a, mark) {
			return false
		}
	}
	return true
}

// spoil overwrites all Args of a type, also those behind the ends of lists.
func spoil(t api.Type) {
	for i, a := range t.Args {
		spoil(a)
		t.Args[i] = api.Type{Kind: -7}
	}
	rest := t.Args[len(t.Args):cap(t.Args)]
	for i := range rest {
		rest[i] = api.Type{Kind: -8}
	}
}

// TestMemory checks that arguments are not changed, and that results share no memory with them, nor with one another.
func TestMemory(t *testing.T) {
	m, mark := newMaker(13), variable(42)
	for i := range 1500 {
		a, args := m.proper(5, []int{2}), m.types(2, 3, []int{1})
		if i%2 == 0 {
			a = m.logical(4)
		}
		whole, cases := lambda(2, a), match(2, a, a, a)
		inputs := []api.Type{roomy(a, mark), roomy(args[0], mark), roomy(args[1], mark), roomy(whole, mark), roomy(cases, mark)}
		before := ""
		for _, in := range inputs {
			before += words(in)
		}
		params, list := []int{boxT, freeU, 99}[:2], append(slices.Clone(inputs[1:3]), mark)[:2]
		results := func() []api.Type {
			subst, _ := Subst(inputs[0], params, list)
			normal, _ := Normal(inputs[0])
			opened, _ := Open(inputs[3], list)
			pattern, body, _ := OpenCase(inputs[4], 0, list)
			return []api.Type{subst, normal, opened, pattern, body}
		}
		first, second := results(), results()
		Check(sampleEnv(), inputs[0])
		Text(sampleEnv(), inputs[0])
		Compare(inputs[0], inputs[3])
		want := ""
		for k := range second {
			want += words(second[k])
		}
		for k, r := range first {
			if !same(r, second[k]) {
				t.Fatalf("two results: %s and %s", words(r), words(second[k]))
			}
			spoil(r)
		}
		after, got := "", ""
		for k, in := range inputs {
			after += words(in)
			if !isKept(in, mark) {
				t.Fatalf("something has been written behind a list of %s", words(in))
			}
			got += words(second[k])
		}
		if after != before || got != want || !slices.Equal(params[:3], []int{boxT, freeU, 99}) || !same(list[:3][2], mark) {
			t.Fatalf("the arguments for %s have been changed", words(a))
		}
	}
}

// TestOwnMemory checks that the parts of one result share no memory.
func TestOwnMemory(t *testing.T) {
	x := fun(intT, array(stringT))
	for _, c := range []struct {
		what string
		make func() (api.Type, api.Errno)
	}{
		{"Subst", func() (api.Type, api.Errno) { return Subst(fun(param(0), param(0)), []int{0}, []api.Type{x}) }},
		{"Open", func() (api.Type, api.Errno) { return Open(lambda(1, fun(bound(0, 0), bound(0, 0))), []api.Type{x}) }},
		{"Normal", func() (api.Type, api.Errno) { return Normal(and(or(param(0), param(1)), x)) }},
		{"Normal of a TApply", func() (api.Type, api.Errno) { return Normal(apply(lambda(1, fun(bound(0, 0), bound(0, 0))), x)) }},
	} {
		got, e := c.make()
		if e != api.OK {
			t.Fatalf("%s: %v", c.what, e)
		}
		seen := map[*api.Type]bool{}
		walk(got, func(n api.Type) {
			if len(n.Args) == 0 {
				return
			}
			if seen[&n.Args[0]] {
				t.Errorf("%s: two parts of %s share memory", c.what, words(got))
			}
			seen[&n.Args[0]] = true
		})
	}
	vars := Vars(fun(variable(1), variable(2)))
	vars[0] = 9
	if again := Vars(fun(variable(1), variable(2))); !slices.Equal(again, []int{1, 2}) {
		t.Errorf("Vars = %v behind a change of its result", again)
	}
}

// TestProgramUnchanged checks that CheckAll, Check, Text and Read leave the program as it is.
func TestProgramUnchanged(t *testing.T) {
	env := sampleEnv()
	CheckAll(env.P)
	for _, c := range texts() {
		Check(env, c.t)
		Text(env, c.t)
		Read(env, c.text)
	}
	want, _ := symbols.Text(sample())
	if got, e := symbols.Text(env.P); got != want || e != api.OK {
		t.Errorf("the declarations are %q, %v; want %q", got, e, want)
	}
	for i, f := range env.P.Fields {
		if !same(f.Type, sample().Fields[i].Type) {
			t.Errorf("the type of the field %d is %s", i, words(f.Type))
		}
	}
}

// TestEmptyLists checks that no list and an empty one are the same.
func TestEmptyLists(t *testing.T) {
	empty := api.Type{Kind: api.TInt, Args: []api.Type{}}
	env := sampleEnv()
	if e := Check(env, empty); e != api.OK {
		t.Errorf("Check of a type with an empty list = %v", e)
	}
	if s, e := Text(env, fun(empty)); s != "(() => Int)" || e != api.OK {
		t.Errorf("Text of a type with an empty list = %q, %v", s, e)
	}
	if got, e := Subst(empty, []int{}, nil); e != api.OK || !same(got, intT) {
		t.Errorf("Subst of a type with an empty list = %s, %v", words(got), e)
	}
	if got, e := Normal(or(empty, intT)); e != api.OK || !same(got, intT) {
		t.Errorf("Normal of a type with an empty list = %s, %v", words(got), e)
	}
}

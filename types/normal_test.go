package types

import (
	"slices"
	"sort"
	"testing"

	"newel/api"
)

// P7.3 and P7.5: Normal.

// read returns the type with a text in the sample.
func read(t *testing.T, s string) api.Type {
	t.Helper()
	a, f := Read(sampleEnv(), s)
	if f.Code != api.OK {
		t.Fatalf("Read(%q): %v", s, f)
	}
	return a
}

func TestNormal(t *testing.T) {
	for _, c := range [][2]string{
		// The examples of the chapter.
		{"(Int & (Int | String))", "Int"},
		{"(Null | String)", "String"},
		{"{1 => Array(#0^0)}(Int)", "Array(Int)"},
		// What has no rule.
		{"Int", "Int"},
		{"Box[Int]", "Box[Int]"},
		{"((Int, (=> Int), (Int *)) => String)", "((Int, (=> Int), (Int *)) => String)"},
		{"(Int match 1 {#0^0 => Int} {String => #0^0})", "(Int match 1 {#0^0 => Int} {String => #0^0})"},
		{"(Int with Out >: Nothing <: Any)", "(Int with Out >: Nothing <: Any)"},
		{"F'2(Int)", "F'2(Int)"},
		{"this(Main#).Fun'1(Int, String)", "this(Main#).Fun'1(Int, String)"},
		// Rule 1.
		{"{2 => ((#0^0) => #1^0)}(Int, String)", "((Int) => String)"},
		{"{1 => {1 => Array(#0^0)}(#0^0)}(Int)", "Array(Int)"},
		{"{1 => (#0^0 & Int)}((Int | String))", "Int"},
		{"{1 => (#0^0 | Int)}(String)", "(Int | String)"},
		{"Array({1 => Int}({1 => String}(Any)))", "Array(Int)"},
		{"(({1 => #0^0}(Int)) => {1 => #0^0}(String))", "((Int) => String)"},
		{"Pair[Int, {1 => {1 => #0^0}(#0^0)}]", "Pair[Int, {1 => #0^0}]"},
		{"{1 => {1 => ((#0^0) => #0^1)}(Any)}(Int)", "((Any) => Int)"},
		{"{2 => Pair[#0^0, {1 => ((#0^0) => #1^1)}]}(Int, String)", "Pair[Int, {1 => ((#0^0) => String)}]"},
		// Rule 2: what is empty.
		{"(Int & Nothing)", "Nothing"},
		{"(T'0 & Nothing)", "Nothing"},
		{"(Nothing & Any)", "Nothing"},
		{"(Int & String)", "Nothing"},
		{"(Int & Long)", "Nothing"},
		{"(Unit & Boolean)", "Nothing"},
		{"(Char & Null)", "Nothing"},
		{"(Null & Unit)", "Nothing"},
		{"(Boolean & Main#[])", "Nothing"},
		{"(Long & Array(Int))", "Nothing"},
		{"((() => Int) & Int)", "Nothing"},
		{"(T'0 & Int & U'3 & String)", "Nothing"},
		{"(String & Main#[] & Int)", "Nothing"},
		{"(Null & String & Int)", "Nothing"},
		{"(Int & Int)", "Int"},
		{"(Int & T'0)", "(Int & T'0)"},
		{"(Int & Any)", "Int"},
		// Rule 2: what has null alone.
		{"(String & Null)", "Null"},
		{"(Null & Null)", "Null"},
		{"(Null & Any)", "Null"},
		{"(Null & T'0)", "(Null & T'0)"},
		{"(T'0 & String & Null)", "(Null & T'0)"},
		{"(String & Main#[])", "Null"},
		{"(Array(Int) & (() => Int))", "Null"},
		{"(Array(Int) & T'0 & Main#[] & (() => Int) & String & x@0)", "(Null & T'0 & x@0)"},
		{"(Main#[] & Box[Int])", "(Main#[] & Box[Int])"},
		{"(Main#[] & Main#[])", "Main#[]"},
		{"(Array(Int) & Array(String))", "(Array(Int) & Array(String))"},
		{"(Null & (Null & String))", "Null"},
		// Rule 2: order, nesting, Any.
		{"(Any & Any)", "Any"},
		{"(T'0 & Any & U'3)", "(T'0 & U'3)"},
		{"(U'3 & T'0 & U'3)", "(T'0 & U'3)"},
		{"(U'3 & (x@0 & (T'0 & Any)) & T'0)", "(T'0 & U'3 & x@0)"},
		{"(Box[String] & Main#[] & Box[Int])", "(Main#[] & Box[Int] & Box[String])"},
		// Rule 2: unions inside.
		{"((Int | String) & T'0)", "((Int & T'0) | (String & T'0))"},
		{"((Int | String) & (Int | Long))", "Int"},
		{"((T'0 | U'3) & (x@0 | +@1))", "((T'0 & x@0) | (T'0 & +@1) | (U'3 & x@0) | (U'3 & +@1))"},
		{"((T'0 | U'3) & (T'0 | x@0))", "(T'0 | (U'3 & x@0))"},
		{"((T'0 | U'3) & T'0)", "T'0"},
		{"((Int | String) & (Boolean | Long))", "Nothing"},
		{"((String | Int) & Null)", "Null"},
		{"((T'0 | (U'3 & x@0)) & x@0)", "((T'0 & x@0) | (U'3 & x@0))"},
		{"(Any & (Int | Any))", "Any"},
		{"(Nothing & (Int | T'0))", "Nothing"},
		// Rule 3.
		{"(Int | Any)", "Any"},
		{"(Nothing | Any)", "Any"},
		{"(Int | Nothing)", "Int"},
		{"(Nothing | Nothing)", "Nothing"},
		{"(String | Int | String)", "(Int | String)"},
		{"(String | (Int | (Unit | Nothing)))", "(Unit | Int | String)"},
		{"((T'0 & U'3) | T'0)", "T'0"},
		{"((T'0 & U'3) | (T'0 & U'3 & x@0))", "(T'0 & U'3)"},
		{"((T'0 & U'3) | (T'0 & x@0))", "((T'0 & U'3) | (T'0 & x@0))"},
		{"(Null | Int)", "(Null | Int)"},
		{"(Null | T'0)", "(Null | T'0)"},
		{"(Null | Main#[])", "Main#[]"},
		{"(Null | Array(Int))", "Array(Int)"},
		{"(Null | (() => Int))", "(() => Int)"},
		{"(Null | (Main#[] & Box[Int]))", "(Main#[] & Box[Int])"},
		{"(Null | (Main#[] & T'0))", "(Null | (Main#[] & T'0))"},
		{"((Null & T'0) | (Main#[] & T'0))", "(Main#[] & T'0)"},
		{"((Null & T'0) | (Main#[] & U'3))", "((Null & T'0) | (Main#[] & U'3))"},
		{"((Null & T'0) | T'0)", "T'0"},
		{"((Null & T'0) | String)", "String"},
		{"((Null & T'0) | Null)", "Null"},
		{"((Null & T'0) | Int)", "(Int | (Null & T'0))"},
		{"((Main#[] & T'0) | (String & T'0) | (Null & T'0))", "((String & T'0) | (Main#[] & T'0))"},
		{"((Null & T'0) | (Main#[] & Box[Int] & T'0))", "(Main#[] & Box[Int] & T'0)"},
		{"((Int & T'0) | (String & T'0))", "((Int & T'0) | (String & T'0))"},
		{"((Int & String) | Int)", "Int"},
		{"((Int & Int) | (Any & Long))", "(Int | Long)"},
		// Rule 4.
		{"Box[(? >: Int <: Int)]", "Box[Int]"},
		{"Box[(? >: (Int | Int) <: (Int & Any))]", "Box[Int]"},
		{"Box[(? >: Nothing <: Int)]", "Box[(? >: Nothing <: Int)]"},
		{"Box[(? >: (Int & String) <: (Null | String))]", "Box[(? >: Nothing <: String)]"},
		{"Box[(? >: Box[(? >: Int <: Int)] <: Box[Int])]", "Box[Box[Int]]"},
		// All places.
		{"Pair[(Int | Nothing), {1 => (#0^0 & Any)}]", "Pair[Int, {1 => #0^0}]"},
		{"(((Int | Nothing)) => (Int & Any))", "((Int) => Int)"},
		{"(((=> (Int & Any)), ((Int & Any) *)) => Array((Int & Any)))", "(((=> Int), (Int *)) => Array(Int))"},
		{"((Int & Any) match 1 {(#0^0 & Any) => (Int | Int)} {(Any & Any) => (#0^0 | #0^0)})", "(Int match 1 {#0^0 => Int} {Any => #0^0})"},
		{"((Int & Any) with Out >: (Int & String) <: (Int | Any))", "(Int with Out >: Nothing <: Any)"},
		{"F'2((Int & Any))", "F'2(Int)"},
	} {
		got, e := Normal(read(t, c[0]))
		if s, _ := Text(sampleEnv(), got); e != api.OK || s != c[1] {
			t.Errorf("Normal(%s) = %s, %v; want %s", c[0], words(got), e, c[1])
		}
	}
}

// TestNormalRaw checks types that Check does not accept.
func TestNormalRaw(t *testing.T) {
	redundant := and(intT, anyT)
	p, q := param(boxT), param(freeU)
	for _, c := range []struct{ t, want api.Type }{
		{api.Type{}, api.Type{}},
		{api.Type{Kind: 99, Sym: 1, Num: 2, Name: "n", Args: []api.Type{redundant}}, api.Type{Kind: 99, Sym: 1, Num: 2, Name: "n", Args: []api.Type{intT}}},
		{bound(3, 5), bound(3, 5)},
		{wild(redundant, intT), intT},
		{withArgs(wild(intT, intT), redundant), withArgs(wild(intT, intT), intT)},
		{withArgs(wild(intT, intT), intT, intT, intT), withArgs(wild(intT, intT), intT, intT, intT)},
		// TAnd and TOr with any number of Args.
		{and(), anyT},
		{or(), nothingT},
		{and(redundant), intT},
		{or(redundant), intT},
		{and(anyT), anyT},
		{or(nothingT), nothingT},
		{and(append(times(20, p), redundant)...), and(intT, p)},
		{or(append(times(20, p), redundant)...), or(intT, p)},
		{and(append(times(19, p), redundant)...), and(intT, p)},
		{or(append(times(19, p), redundant)...), or(intT, p)},
		{and(append(params(0, 21), redundant)...), and(append([]api.Type{intT}, params(0, 21)...)...)},
		{or(append(params(0, 21), redundant)...), or(append([]api.Type{intT}, params(0, 21)...)...)},
		{or(append(params(0, 21), nullT, and(p, intT), and(nullT, param(30)), and(stringT, param(30)))...), or(append(append([]api.Type{nullT}, params(0, 21)...), and(stringT, param(30)))...)},
		{array(and(or(p, q))), array(or(p, q))},
		{fun(and(or(intT)), or(and(stringT))), fun(intT, stringT)},
		{and(p, and(q)), and(p, q)},
		{or(p, or(q)), or(p, q)},
		{and(p, and()), p},
		{or(p, or()), p},
		{and(p, or(q)), and(p, q)},
		{and(p, or()), nothingT},
		{or(p, and()), anyT},
		{and(p, and(or(p, q))), p},
		{or(and(p), q), or(p, q)},
		{wild(or(p), and(p)), p},
		{apply(and(lambda(1, bound(0, 0))), intT), intT},
		// TApply with another number of Args, or of another TLambda.
		{apply(lambda(1, bound(0, 0))), apply(lambda(1, bound(0, 0)))},
		{apply(lambda(0, redundant)), apply(lambda(0, intT))},
		{apply(), apply()},
		{apply(lambda(1, bound(0, 0)), intT, redundant), apply(lambda(1, bound(0, 0)), intT, intT)},
		{apply(lambda(2, bound(0, 0)), redundant), apply(lambda(2, bound(0, 0)), intT)},
		{apply(withArgs(lambda(1, intT), redundant, redundant), redundant), apply(withArgs(lambda(1, intT), intT, intT), intT)},
		{apply(withArgs(lambda(1, intT)), redundant), apply(withArgs(lambda(1, intT)), intT)},
		{apply(append([]api.Type{lambda(13, intT)}, times(13, intT)...)...), apply(append([]api.Type{lambda(13, intT)}, times(13, intT)...)...)},
		{apply(append([]api.Type{lambda(12, bound(11, 0))}, append(times(11, intT), stringT)...)...), stringT},
		{apply(intT, redundant), apply(intT, intT)},
		{apply(lambda(1, bound(0, 1)), intT), bound(0, 0)},
		{apply(apply(lambda(1, lambda(1, fun(bound(0, 0), bound(0, 1)))), intT), stringT), fun(stringT, intT)},
		{apply(lambda(1, apply(bound(0, 0), intT)), lambda(1, array(bound(0, 0)))), array(intT)},
		// Args that are not proper.
		{and(lambda(1, intT), nullT), and(nullT, lambda(1, intT))},
		{and(lambda(1, intT), lambda(1, redundant)), lambda(1, intT)},
		{or(lambda(1, intT), nullT, intT), or(nullT, intT, lambda(1, intT))},
		{and(wild(intT, longT), stringT), and(stringT, wild(intT, longT))},
		// Only the kind counts for a group.
		{and(class(-1), class(1<<40)), and(class(-1), class(1<<40))},
		{and(class(7, intT), fun()), nullT},
	} {
		got, e := Normal(c.t)
		if e != api.OK || !same(got, c.want) {
			t.Errorf("Normal(%s) = %s, %v; want %s", words(c.t), words(got), e, words(c.want))
		}
	}
}

// arrays returns that many different array types, functions the same of functions without parameters.
func arrays(n int) []api.Type {
	var list []api.Type
	for i := range n {
		list = append(list, array(param(i)))
	}
	return list
}

func functions(n int) []api.Type {
	var list []api.Type
	for i := range n {
		list = append(list, fun(param(i)))
	}
	return list
}

func params(from, n int) []api.Type {
	var list []api.Type
	for i := range n {
		list = append(list, param(from+i))
	}
	return list
}

// union returns the union of any number of types, as unions of at most 20.
func union(list []api.Type) api.Type {
	if len(list) <= 20 {
		return or(list...)
	}
	var parts []api.Type
	for part := range slices.Chunk(list, 20) {
		if len(part) == 1 {
			parts = append(parts, part[0])
		} else {
			parts = append(parts, or(part...))
		}
	}
	return union(parts)
}

// making returns a type whose normal form is made in that many steps by rule 2: 20 + 20 times some.
func making(steps int) api.Type {
	return and(union(arrays(20)), union(functions((steps-20)/20)))
}

// openings returns a type whose normal form is made in that many steps by rule 1: at most 60.
func openings(steps int) api.Type {
	t := intT
	for range steps {
		t = apply(lambda(1, bound(0, 0)), t)
	}
	return t
}

func TestFuel(t *testing.T) {
	omega := lambda(1, apply(bound(0, 0), bound(0, 0)))
	pair := and(or(param(0), param(1)), param(2)) // two steps
	for _, c := range []struct {
		what string
		t    api.Type
		want api.Errno
	}{
		{"1000 TAnds", making(1000), api.OK},
		{"1020 TAnds", making(1020), api.ErrFuel},
		{"1000 TAnds in two parts", fun(making(500), making(500)), api.OK},
		{"1000 TAnds and one TApply", fun(making(1000), openings(1)), api.ErrFuel},
		{"one TApply and 1000 TAnds", fun(openings(1), making(1000)), api.ErrFuel},
		{"980 TAnds and 20 TApply", fun(making(980), openings(20)), api.OK},
		{"980 TAnds and 21 TApply", fun(making(980), openings(21)), api.ErrFuel},
		{"960 TAnds, 38 TApply, 2 TAnds", fun(making(960), openings(38), pair), api.OK},
		{"960 TAnds, 39 TApply, 2 TAnds", fun(making(960), openings(39), pair), api.ErrFuel},
		{"a TApply that is opened again and again", apply(omega, omega), api.ErrFuel},
		{"three unions", and(union(arrays(9)), union(functions(10)), union(arrays(10))), api.OK},                            // 9 + 90 + 900
		{"three larger unions", and(union(arrays(10)), union(functions(9)), union(params(10, 10))), api.OK},                 // 10 + 90 + 900
		{"three unions that are too large", and(union(arrays(11)), union(functions(9)), union(params(10, 9))), api.ErrFuel}, // 11 + 99 + 891
	} {
		if got, e := Normal(c.t); e != c.want || e != api.OK && !same(got, api.Type{}) {
			t.Errorf("Normal of %s = %.100s, %v; want %v", c.what, words(got), e, c.want)
		}
	}
	if got, _ := Normal(fun(making(1000), intT)); !same(got, fun(nullT, intT)) {
		t.Errorf("Normal of 1000 TAnds = %.100s; want Null", words(got))
	}
}

func TestNormalLimits(t *testing.T) {
	large := and(union(params(0, 20)), union(params(20, 34))) // 680 TAnds with two Args
	deep := apply(lambda(1, nested(40, bound(0, 0))), nested(24, intT))
	right := apply(lambda(1, nested(40, bound(0, 0))), nested(23, intT))
	for _, c := range []struct {
		what string
		t    api.Type
		want api.Errno
	}{
		{"2000 nodes", wide(MaxSize), api.OK},
		{"2001 nodes", wide(MaxSize + 1), api.ErrLimit},
		{"64 levels", nested(63, intT), api.OK},
		{"65 levels", nested(64, intT), api.ErrDepth},
		{"too many nodes on too many levels", fun(nested(64, intT), wide(MaxSize)), api.ErrLimit},
		{"endless", endless(), api.ErrLimit},
		{"a normal form with 1981 nodes", and(union(params(0, 20)), union(params(20, 33))), api.OK},
		{"a normal form with 2041 nodes", large, api.ErrLimit},
		{"a normal form with 64 levels", right, api.OK},
		{"a normal form with 65 levels", deep, api.ErrDepth},
		{"a part whose normal form is too large", and(nothingT, array(large)), api.ErrLimit},
		{"a part whose normal form is too deep", and(nothingT, deep), api.ErrDepth},
		{"a part in a TApply that does not use it", apply(lambda(1, intT), large), api.ErrLimit},
		{"a union in another one that is too large", or(anyT, large), api.ErrLimit},
		{"too large, then too deep", fun(large, deep), api.ErrLimit},
		{"too deep, then too large", fun(deep, large), api.ErrDepth},
		{"too deep, then too many steps", fun(deep, making(1020)), api.ErrDepth},
		{"too many steps, then too deep", fun(making(1020), deep), api.ErrFuel},
		{"parts that are too large together", fun(and(union(params(0, 20)), union(params(20, 20))), and(union(params(0, 20)), union(params(20, 20)))), api.ErrLimit},
		{"one such part", fun(intT, and(union(params(0, 20)), union(params(20, 20)))), api.OK},
		{"a part that is one level too deep with what is around it", nested(1, apply(lambda(1, nested(40, bound(0, 0))), nested(23, intT))), api.ErrDepth},
		{"an opened type that is too large", apply(lambda(1, fun(bound(0, 0), bound(0, 0))), wide(1000)), api.ErrLimit},
		{"an opened type with 1999 nodes", apply(lambda(1, fun(bound(0, 0), bound(0, 0))), wide(999)), api.OK},
		{"an opened type that is too large, though its normal form is not", apply(lambda(1, and(bound(0, 0), array(bound(0, 0)))), wide(1000)), api.ErrLimit},
		{"an opened type that is too deep, though its normal form is not", apply(lambda(1, and(bound(0, 0), array(bound(0, 0)))), fun(nested(62, intT))), api.ErrDepth},
		{"an opened type that is just not too deep", apply(lambda(1, and(bound(0, 0), array(bound(0, 0)))), fun(nested(60, intT))), api.OK},
		{"a TAnd whose normal form is just not too large, and is absorbed", absorbed(399), api.OK},
		{"a TAnd whose normal form is too large, though it would be absorbed", absorbed(400), api.ErrLimit},
	} {
		got, e := Normal(c.t)
		if e != c.want || e != api.OK && !same(got, api.Type{}) {
			t.Errorf("Normal of a type with %s = %.100s, %v; want %v", c.what, words(got), e, c.want)
		}
	}
}

// absorbed returns a TAnd that becomes two TAnds: the normal form of the first one has that many parts with 5 nodes, and that of the second one parts with 4 nodes that absorb them.
func absorbed(parts int) api.Type {
	p, q := param(1000), param(1001)
	var list []api.Type
	for i := range parts {
		list = append(list, and(q, array(param(i))))
	}
	return and(or(p, q), union(list))
}

// TestManyParts has unions of many intersections of many types: to compare each two of them part by part would take minutes.
func TestManyParts(t *testing.T) {
	many := func(kind, from, n int) api.Type { return api.Type{Kind: kind, Args: params(from, n)} }
	for _, first := range []int{0, 5000} { // whether the Args in which the TAnds differ are the least or the greatest ones
		got, e := Normal(and(many(api.TOr, first, 900), many(api.TAnd, 2000, 1000)))
		if e != api.ErrLimit || !same(got, api.Type{}) {
			t.Errorf("Normal = %.100s, %v; want %v", words(got), e, api.ErrLimit)
		}
		all := many(api.TAnd, 2000, 900)
		got, e = Normal(and(or(param(2000), many(api.TOr, first, 900)), all))
		if e != api.OK || !same(got, all) {
			t.Errorf("Normal = %.100s, %v; want the TAnd of 900 types", words(got), e)
		}
	}
}

// TestNullAmongMany has null as a part in unions of any number of types.
func TestNullAmongMany(t *testing.T) {
	q, r, s := param(300), param(301), param(302)
	onlyNull, strings := and(nullT, q), and(stringT, q)
	for n := range 140 {
		some := params(0, n)
		got, e := Normal(or(append(some, onlyNull, strings)...))
		if want := or(append(some, strings)...); e != api.OK || n > 0 && !same(got, want) {
			t.Fatalf("Normal of a union with %d others = %s, %v", n, words(got), e)
		}
		all := or(append(some, onlyNull, and(q, r), and(s, array(intT)))...)
		if got, e := Normal(all); e != api.OK || !same(got, all) {
			t.Fatalf("Normal of a union with %d others = %s, %v; nothing is absorbed", n, words(got), e)
		}
	}
}

// normalForm is another way to find the normal form: by sets of parts. It is false where there are too many.
func normalForm(t api.Type) (api.Type, bool) {
	args := slices.Clone(t.Args)
	for i := range args {
		arg, ok := normalForm(args[i])
		if !ok {
			return api.Type{}, false
		}
		args[i] = arg
	}
	t.Args = args
	switch {
	case t.Kind == api.TApply && args[0].Kind == api.TLambda:
		count := 0
		whole := toNamed(args[0], nil, &count)
		return normalForm(whole.args[0].replace(func(part named) (named, bool) {
			if part.binder != whole.names[0] {
				return named{}, false
			}
			return toNamed(args[1+part.t.Num], nil, &count), true
		}).toType(nil))
	case t.Kind == api.TAnd:
		rows := [][]api.Type{nil}
		for _, arg := range args {
			var more [][]api.Type
			for _, row := range rows {
				for _, one := range argsIf(api.TOr, arg) {
					more = append(more, append(slices.Clone(row), one))
				}
			}
			if rows = more; len(rows) > 3000 {
				return api.Type{}, false
			}
		}
		var terms []api.Type
		for _, row := range rows {
			terms = append(terms, term(row))
		}
		return sum(terms), true
	case t.Kind == api.TOr:
		return sum(args), true
	case t.Kind == api.TWild && same(args[0], args[1]):
		return args[0], true
	}
	return t, true
}

// argsIf returns the Args of a type with a kind, and any other type alone.
func argsIf(kind int, t api.Type) []api.Type {
	if t.Kind == kind {
		return t.Args
	}
	return []api.Type{t}
}

// sortsOf returns what sorts of values a type of a group, TNull or TNothing may have: one bit for null, and one for each group.
func sortsOf(t api.Type) int {
	const null = 1
	switch t.Kind {
	case api.TNothing:
		return 0
	case api.TNull:
		return null
	case api.TUnit, api.TBoolean, api.TChar, api.TInt, api.TLong:
		return 1 << t.Kind
	case api.TString, api.TClass, api.TArray, api.TFun:
		return 1<<t.Kind | null
	}
	return -1
}

// term is the TAnd of types without TOr.
func term(row []api.Type) api.Type {
	var parts []api.Type
	sorts := -1
	for _, t := range row {
		for _, part := range argsIf(api.TAnd, t) {
			parts, sorts = append(parts, part), sorts&sortsOf(part)
		}
	}
	if sorts == 0 {
		return nothingT
	}
	set := map[string]api.Type{}
	for _, part := range parts {
		if sorts == 1 && sortsOf(part) != -1 {
			part = nullT
		}
		if part.Kind != api.TAny {
			set[key(part)] = part
		}
	}
	return together(api.TAnd, anyT, set)
}

// sum is the TOr of types.
func sum(list []api.Type) api.Type {
	set := map[string]api.Type{}
	for _, t := range list {
		for _, part := range argsIf(api.TOr, t) {
			set[key(part)] = part
		}
	}
	if _, ok := set[key(anyT)]; ok {
		return anyT
	}
	delete(set, key(nothingT))
	left := map[string]api.Type{}
	for k, a := range set {
		isLeft := true
		for l, b := range set {
			isLeft = isLeft && (k == l || !isPart(b, a))
		}
		if isLeft {
			left[k] = a
		}
	}
	return together(api.TOr, nothingT, left)
}

// isPart reports whether each value of a, as a TAnd of its parts, is seen to be one of b.
func isPart(b, a api.Type) bool {
	has := map[string]bool{}
	for _, part := range argsIf(api.TAnd, a) {
		has[key(part)] = true
	}
	for _, part := range argsIf(api.TAnd, b) {
		isOfNull := has[key(nullT)] && sortsOf(part) != -1 && sortsOf(part)&1 == 1 && part.Kind != api.TNull
		if !has[key(part)] && !isOfNull {
			return false
		}
	}
	return true
}

func together(kind int, none api.Type, set map[string]api.Type) api.Type {
	var keys []string
	for k := range set {
		keys = append(keys, k)
	}
	sort.Strings(keys)
	t := api.Type{Kind: kind}
	for _, k := range keys {
		t.Args = append(t.Args, set[k])
	}
	switch len(keys) {
	case 0:
		return none
	case 1:
		return t.Args[0]
	}
	return t
}

// logical returns a type of TAnds and TOrs of few others.
func (m maker) logical(depth int) api.Type {
	if depth <= 1 || m.sometimes(5) {
		list := []api.Type{anyT, nothingT, nullT, unitT, intT, stringT, class(mainObject), class(inner), class(box, intT), array(intT), fun(intT), param(boxT), param(freeU), local(x), this(box), variable(3)}
		return list[m.Intn(len(list))]
	}
	depth--
	switch m.Intn(9) {
	case 0:
		return array(m.logical(depth))
	case 1:
		return fun(m.logical(depth), m.logical(depth))
	case 2:
		return class(box, wild(m.logical(depth), m.logical(depth)))
	case 3:
		return apply(lambda(1, and(bound(0, 0), m.logical(depth))), m.logical(depth))
	}
	t := api.Type{Kind: api.TAnd + m.Intn(2)}
	count := 2 + m.Intn(3)
	if m.sometimes(10) {
		count = m.Intn(2)
	}
	for range count {
		t.Args = append(t.Args, m.logical(depth))
	}
	for m.sometimes(40) {
		t.Args = append(t.Args, slices.Concat(t.Args, t.Args, t.Args)...)
	}
	return t
}

// TestNormalAtRandom compares with the other way.
func TestNormalAtRandom(t *testing.T) {
	m := newMaker(10)
	errors := 0
	for i := range 12000 {
		a := m.logical(2 + m.Intn(4))
		if i%4 == 0 {
			a = m.proper(6, nil)
		}
		got, e := Normal(a)
		want, ok := normalForm(a)
		if e != api.OK || !ok {
			if errors++; errors > 600 || e != api.ErrLimit && e != api.ErrFuel && e != api.ErrDepth && e != api.OK {
				t.Fatalf("Normal(%s) = %v", words(a), e)
			}
			continue
		}
		if !same(got, want) {
			t.Fatalf("Normal(%s) = %s; want %s", words(a), words(got), words(want))
		}
	}
}

// hasManyParts reports whether a TAnd or TOr in a type has more than 20 Args, or a TWild stood for a type function.
func hasManyParts(t api.Type) bool {
	many := false
	walk(t, func(n api.Type) { many = many || (n.Kind == api.TAnd || n.Kind == api.TOr) && len(n.Args) > 20 })
	return many
}

// hasWildFunction reports whether a TWild stands for a type function.
func hasWildFunction(t api.Type) bool {
	found := false
	walk(t, func(n api.Type) {
		found = found || n.Kind == api.TClass && n.Sym == pair && n.Args[1].Kind == api.TWild
	})
	return found
}

// TestNormalProperties has the properties of P7.5.
func TestNormalProperties(t *testing.T) {
	m, env := newMaker(11), sampleEnv()
	for i := range 15000 {
		a := m.proper(6, nil)
		switch i % 3 {
		case 0:
			a = m.logical(5)
		case 1:
			a = m.junk(6)
		}
		got, e := Normal(a)
		if e != api.OK {
			continue
		}
		again, e := Normal(got)
		if e != api.OK || !same(again, got) {
			t.Fatalf("Normal(%s) = %s, %v: it is the normal form of %s", words(got), words(again), e, words(a))
		}
		isAccepted := Check(env, a) == api.OK && !hasManyParts(got) && !hasWildFunction(a)
		if e := Check(env, got); isAccepted && e != api.OK {
			t.Fatalf("Check(%s) = %v: it is the normal form of %s", words(got), e, words(a))
		}
	}
}

// mixed returns a copy of a type in which the Args of TAnds and TOrs have another order, and some stand twice.
func (m maker) mixed(t api.Type) api.Type {
	args := slices.Clone(t.Args)
	for i := range args {
		args[i] = m.mixed(args[i])
	}
	if t.Kind == api.TAnd || t.Kind == api.TOr {
		if m.sometimes(2) && len(args) > 0 {
			args = append(args, args[m.Intn(len(args))])
		}
		if m.sometimes(10) {
			args = append(args, args...)
		}
		m.Shuffle(len(args), func(i, j int) { args[i], args[j] = args[j], args[i] })
	}
	t.Args = args
	return t
}

// TestPartsTwice has Args of which as many as a TAnd or TOr may have, or only one, stand twice.
func TestPartsTwice(t *testing.T) {
	for _, kind := range []int{api.TAnd, api.TOr} {
		for _, n := range []int{1, 2, 19, 20, 40} {
			list := params(0, n)
			back := slices.Clone(list)
			slices.Reverse(back)
			want := api.Type{Kind: kind, Args: list}
			if n == 1 {
				want = list[0]
			}
			for _, args := range [][]api.Type{list, back, slices.Concat(list, list[:1]), slices.Concat(back, list), slices.Concat(back, list, back)} {
				if got, e := Normal(api.Type{Kind: kind, Args: args}); e != api.OK || !same(got, want) {
					t.Errorf("Normal with %d Args of which %d are different = %s, %v", len(args), n, words(got), e)
				}
			}
		}
	}
}

// TestOrderOfParts checks that neither the order of the Args of a TAnd or TOr matters, nor whether they stand twice.
func TestOrderOfParts(t *testing.T) {
	m := newMaker(12)
	compared := 0
	for range 10000 {
		a := m.logical(2 + m.Intn(4))
		b := m.mixed(a)
		got, e := Normal(a)
		other, f := Normal(b)
		if e != api.OK || f != api.OK {
			continue
		}
		if compared++; !same(got, other) {
			t.Fatalf("Normal(%s) = %s, but Normal(%s) = %s", words(a), words(got), words(b), words(other))
		}
	}
	if compared < 9000 {
		t.Errorf("only %d types have been compared", compared)
	}
}

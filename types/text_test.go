package types

import (
	"slices"
	"strings"
	"testing"

	"newel/api"
)

// P7.4: Text and Read.

// texts has types of the sample, and their texts.
func texts() []struct {
	t    api.Type
	text string
} {
	return []struct {
		t    api.Type
		text string
	}{
		{anyT, "Any"},
		{nothingT, "Nothing"},
		{nullT, "Null"},
		{unitT, "Unit"},
		{basic(api.TBoolean), "Boolean"},
		{basic(api.TChar), "Char"},
		{intT, "Int"},
		{longT, "Long"},
		{stringT, "String"},
		{class(mainObject), "Main#[]"},
		{class(inner), "Main#.Inner[]"},
		{class(deep), "Main#.Nest#.Deep[]"},
		{class(aTrait), "Box.Trait[]"},
		{class(plus), "+[]"},
		{class(box, intT), "Box[Int]"},
		{class(box, class(box, class(plus))), "Box[Box[+[]]]"},
		{class(box, wild(nothingT, intT)), "Box[(? >: Nothing <: Int)]"},
		{class(pair, stringT, param(pairF)), "Pair[String, F'2]"},
		{param(boxT), "T'0"},
		{param(freeU), "U'3"},
		{member(boxOut, local(x)), "x@0.Out'0"},
		{member(mainFun, this(mainObject)), "this(Main#).Fun'1"},
		{member(traitOut, field(boxB, field(mainF, local(op)))), "+@1.f@0.b@3.Out'2"},
		{this(mainObject), "this(Main#)"},
		{this(deep), "this(Main#.Nest#.Deep)"},
		{this(plus), "this(+)"},
		{local(x), "x@0"},
		{field(deepD, this(box)), "this(Box).d@4"},
		{and(intT, stringT), "(Int & String)"},
		{and(intT, or(stringT, intT, nullT), intT), "(Int & (String | Int | Null) & Int)"},
		{or(and(intT, stringT), intT), "((Int & String) | Int)"},
		{fun(intT), "(() => Int)"},
		{fun(intT, stringT), "((Int) => String)"},
		{fun(intT, stringT, unitT), "((Int, String) => Unit)"},
		{fun(fun(intT)), "(() => (() => Int))"},
		{fun(fun(intT), intT), "(((() => Int)) => Int)"},
		{fun(fun(intT, intT), fun(intT, intT), intT), "((((Int) => Int), ((Int) => Int)) => Int)"},
		{fun(and(intT, intT), intT), "(((Int & Int)) => Int)"},
		{fun(byName(intT), repeat(stringT), unitT), "(((=> Int), (String *)) => Unit)"},
		{fun(repeat(intT), intT), "(((Int *)) => Int)"},
		{fun(byName(intT), intT), "(((=> Int)) => Int)"},
		{array(intT), "Array(Int)"},
		{array(array(or(intT, intT))), "Array(Array((Int | Int)))"},
		{byName(intT), "(=> Int)"},
		{byName(fun(intT, intT)), "(=> ((Int) => Int))"},
		{repeat(intT), "(Int *)"},
		{repeat(fun(intT, intT)), "(((Int) => Int) *)"},
		{lambda(1, bound(0, 0)), "{1 => #0^0}"},
		{lambda(12, bound(11, 0)), "{12 => #11^0}"},
		{lambda(2, apply(lambda(1, fun(bound(0, 0), bound(1, 1))), bound(0, 0))), "{2 => {1 => ((#0^0) => #1^1)}(#0^0)}"},
		{apply(param(pairF), intT), "F'2(Int)"},
		{apply(param(freeG), intT, stringT), "G'4(Int, String)"},
		{apply(member(mainFun, this(mainObject)), intT, apply(param(pairF), intT)), "this(Main#).Fun'1(Int, F'2(Int))"},
		{match(0, intT, stringT, longT), "(Int match 0 {String => Long})"},
		{match(2, class(box, intT), class(box, bound(0, 0)), bound(1, 0), anyT, fun(bound(0, 0), intT)), "(Box[Int] match 2 {Box[#0^0] => #1^0} {Any => ((#0^0) => Int)})"},
		{match(0, fun(intT), fun(intT), fun(intT)), "((() => Int) match 0 {(() => Int) => (() => Int)})"},
		{refine(class(box, intT), "Out", nothingT, intT), "(Box[Int] with Out >: Nothing <: Int)"},
		{refine(fun(intT), ">:", nothingT, intT), "((() => Int) with >: >: Nothing <: Int)"},
		{refine(refine(intT, "A", intT, intT), "with", intT, intT), "((Int with A >: Int <: Int) with with >: Int <: Int)"},
		{variable(0), "?0"},
		{variable(99), "?99"},
		{and(variable(1), variable(2)), "(?1 & ?2)"},
	}
}

func TestTexts(t *testing.T) {
	env := sampleEnv()
	for _, c := range texts() {
		if s, e := Text(env, c.t); s != c.text || e != api.OK {
			t.Errorf("Text(%s) = %q, %v; want %q", words(c.t), s, e, c.text)
		}
		if got, f := Read(env, c.text); !same(got, c.t) || f != (api.Fault{}) {
			t.Errorf("Read(%q) = %s, %v; want %s", c.text, words(got), f, words(c.t))
		}
	}
}

// TestNames checks names that look like other parts of texts.
func TestNames(t *testing.T) {
	for _, name := range []string{"=>", "?", "&", "|", "*", ">:", "<:", "match", "with", "this", "Array", "Int", "Any", "_", "$1", "x1", "a", "+-*/%<>=!&|^~:?"} {
		env := sampleEnv()
		env.P.TParams[boxT].Name, env.P.TParams[pairF].Name, env.P.Types[boxOut].Name, env.P.Fields[mainF].Name, env.Locals[x].Name = name, name, name, name, name
		if !slices.Contains([]string{"this", "Array", "Int", "Any"}, name) {
			env.P.Classes[nest].Name, env.P.Classes[deep].Name, env.P.Classes[plus].Name, env.P.Classes[box].Name = name, name, name, name+"1"
			if strings.Trim(name, "+-*/%<>=!&|^~:?") == "" {
				env.P.Classes[box].Name = name + "+"
			}
		}
		p := env.P
		for _, a := range []api.Type{
			param(boxT), apply(param(pairF), param(boxT)), local(x), field(mainF, local(x)), member(boxOut, field(mainF, this(plus))),
			class(plus), this(deep), class(deep), class(box, class(nest)), fun(class(plus), class(plus)), fun(param(boxT), local(x)), and(class(plus), local(x)), repeat(class(plus)), repeat(param(boxT)), byName(class(plus)), byName(local(x)),
			refine(param(boxT), name, class(plus), local(x)), class(box, wild(class(plus), local(x))), match(0, param(boxT), class(plus), local(x)), fun(fun(class(plus)), class(plus)), lambda(1, class(plus)),
			or(variable(3), param(boxT)), array(param(boxT)),
		} {
			s, e := Text(env, a)
			if e != api.OK {
				t.Fatalf("Text(%s) with the name %s: %v", words(a), name, e)
			}
			if got, f := Read(env, s); f.Code != api.OK || !same(got, a) {
				t.Errorf("Read(%q) = %s, %v; want %s", s, words(got), f, words(a))
			}
		}
		want := name + "@0." + name + "@0"
		if s, _ := Text(env, field(mainF, local(x))); s != want {
			t.Errorf("Text of a field %s of a local %s = %q", p.Fields[mainF].Name, name, s)
		}
	}
}

func TestTextErrors(t *testing.T) {
	env := sampleEnv()
	cyclic := sampleEnv()
	cyclic.P.Classes[nest].Owner = deep
	long := sampleEnv()
	long.P.Classes[plus].Name = strings.Repeat("a", api.MaxText)
	both := sampleEnv()
	both.P.Classes[plus].Name = strings.Repeat("a", api.MaxText)
	both.P.Classes[nest].Owner = deep
	for _, c := range []struct {
		what string
		env  api.Env
		t    api.Type
		want api.Errno
	}{
		{"no type", env, api.Type{}, api.ErrKind},
		{"a type that is too large", env, wide(MaxSize + 1), api.ErrLimit},
		{"a type that is too deep", env, nested(64, intT), api.ErrDepth},
		{"a TWild", env, wild(intT, intT), api.ErrInvalid},
		{"a class that does not exist", env, class(8), api.ErrRange},
		{"a class in a cycle", cyclic, class(deep), api.ErrCycle},
		{"this of a class in a cycle", cyclic, array(this(deep)), api.ErrCycle},
		{"a type beside a cycle", cyclic, class(inner), api.OK},
		{"a wrong type and a cycle", cyclic, fun(class(deep), basic(0)), api.ErrKind},
		{"a long name", long, class(plus), api.ErrLimit},
		{"a long name and a wrong type", long, fun(class(plus), basic(0)), api.ErrKind},
		{"a long name, and a cycle behind it", both, fun(class(plus), class(deep)), api.ErrCycle},
	} {
		if s, e := Text(c.env, c.t); e != c.want || e != api.OK && s != "" {
			t.Errorf("Text of %s = %.20q, %v; want %v", c.what, s, e, c.want)
		}
	}
}

// plain is another way to write a type: by a pattern, in which a letter stands for a part.
func plain(env api.Env, t api.Type) string {
	pattern := map[int]string{
		api.TAny: "Any", api.TNothing: "Nothing", api.TNull: "Null", api.TUnit: "Unit", api.TBoolean: "Boolean", api.TChar: "Char", api.TInt: "Int", api.TLong: "Long", api.TString: "String",
		api.TClass: "$c[$,]", api.TParam: "$p'$s", api.TMember: "$0.$m'$s", api.TThis: "this($c)", api.TLocal: "$l@$s", api.TField: "$0.$f@$s",
		api.TAnd: "($&)", api.TOr: "($|)", api.TFun: "(($<) => $-)", api.TArray: "Array($0)", api.TByName: "(=> $0)", api.TRepeat: "($0 *)",
		api.TLambda: "{$n => $0}", api.TBound: "#$n^$s", api.TApply: "$0($>)", api.TMatch: "($0 match $n$;)", api.TRefine: "($0 with $N >: $1 <: $2)", api.TWild: "(? >: $0 <: $1)", api.TVar: "?$n",
	}[t.Kind]
	var args []string
	for _, a := range t.Args {
		args = append(args, plain(env, a))
	}
	var s strings.Builder
	for i := 0; i < len(pattern); i++ {
		if pattern[i] != '$' {
			s.WriteByte(pattern[i])
			continue
		}
		i++
		s.WriteString(piece(env, t, args, pattern[i]))
	}
	return s.String()
}

// piece returns what a letter stands for.
func piece(env api.Env, t api.Type, args []string, letter byte) string {
	switch letter {
	case 's':
		return digitsOf(t.Sym)
	case 'n':
		return digitsOf(t.Num)
	case 'N':
		return t.Name
	case 'c':
		return fullName(env.P, t.Sym)
	case 'p':
		return env.P.TParams[t.Sym].Name
	case 'm':
		return env.P.Types[t.Sym].Name
	case 'l':
		return env.Locals[t.Sym].Name
	case 'f':
		return env.P.Fields[t.Sym].Name
	case '0', '1', '2':
		return args[letter-'0']
	case ',':
		return strings.Join(args, ", ")
	case '<':
		return strings.Join(args[:len(args)-1], ", ")
	case '>':
		return strings.Join(args[1:], ", ")
	case '-':
		return args[len(args)-1]
	case ';':
		cases := ""
		for i := 1; i < len(args); i += 2 {
			cases += " {" + args[i] + " => " + args[i+1] + "}"
		}
		return cases
	}
	return strings.Join(args, " "+string(letter)+" ")
}

func fullName(p api.Program, class int) string {
	name := p.Classes[class].Name
	if p.Classes[class].Kind == api.IsObject {
		name += "#"
	}
	if owner := p.Classes[class].Owner; owner >= 0 {
		return fullName(p, owner) + "." + name
	}
	return name
}

// TestTextLimit checks texts of at most api.MaxText bytes, and longer ones.
func TestTextLimit(t *testing.T) {
	env := sampleEnv()
	env.P.Classes[plus].Name, env.Locals[x].Name = strings.Repeat("a", api.MaxName), strings.Repeat("x", 50)
	rows := times(12, fun(times(13, fun(times(6, class(plus))...))...))
	build := func(locals, name int) api.Type {
		last := or(append(times(locals, local(x)), refine(intT, strings.Repeat("n", name), intT, intT))...)
		return fun(append(slices.Clone(rows), last)...)
	}
	for target := api.MaxText - 3; target <= api.MaxText+3; target++ {
		locals := 1
		for len(plain(env, build(locals+1, 1))) <= target {
			locals++
		}
		a := build(locals, 1+target-len(plain(env, build(locals, 1))))
		text := plain(env, a)
		if len(text) != target {
			t.Fatalf("a text with %d bytes; want %d", len(text), target)
		}
		s, e := Text(env, a)
		got, f := Read(env, text)
		if target > api.MaxText {
			if e != api.ErrLimit || s != "" {
				t.Errorf("Text with %d bytes: %v; want ErrLimit", target, e)
			}
			if f != (api.Fault{Code: api.ErrLimit}) || !same(got, api.Type{}) {
				t.Errorf("Read of %d bytes: %v; want {0, ErrLimit}", target, f)
			}
			continue
		}
		if e != api.OK || s != text {
			t.Errorf("Text with %d bytes: %v", target, e)
		}
		if f != (api.Fault{}) || !same(got, a) {
			t.Errorf("Read of %d bytes: %v", target, f)
		}
	}
	if _, f := Read(env, strings.Repeat("(", api.MaxText+1)); f != (api.Fault{Code: api.ErrLimit}) {
		t.Errorf("Read of a wrong text that is too long: %v; want {0, ErrLimit}", f)
	}
}

// TestTextAtRandom compares with the other way to write types, and reads the texts.
func TestTextAtRandom(t *testing.T) {
	m, env := newMaker(8), sampleEnv()
	for range 5000 {
		a := m.proper(6, nil)
		if m.sometimes(4) {
			a = m.typeFunction(1+m.Intn(2), 4, nil)
		}
		s, e := Text(env, a)
		if want := plain(env, a); e != api.OK || s != want {
			t.Fatalf("Text(%s) = %q, %v; want %q", words(a), s, e, want)
		}
		if got, f := Read(env, s); f != (api.Fault{}) || !same(got, a) {
			t.Fatalf("Read(%q) = %s, %v; want %s", s, words(got), f, words(a))
		}
	}
}

// TestReadSyntax checks texts that no type has.
func TestReadSyntax(t *testing.T) {
	list := []string{
		"", " ", "Int ", " Int", "int", "Intx", "Int[]", "Main#", "Main[]", "Main", "Main#[", "Main#[]]", "Main#[ ]", "Main#[Int]", "Box[]", "Box[Int,String]", "Box[Int, String]", "Box[Int ]", "Box[ Int]", "Box[Int", "Box#[Int]", "Pair[Int, Int]", "Pair[Int,F'2]", "Pair[F'2, F'2]", "Box[F'2]", "Nope[]", "Inner[]", "Main#Inner[]", "Main#.Inner", "Main.Inner[]", "Main#..Inner[]", ".Main#[]", "Main##[]", "Main#.Inner.[]", "++[]",
		"T'", "T'1", "T'00", "T'-0", "T'+0", "'0", "X'0", "T'6", "T'99999999999999999999", "T 0", "U'03", "U'3'", "U'3 ",
		"x", "x@", "x@1", "y@0", "x@00", "y@2", "z@3", "x@4", "@0", "x@0.", "x@0.f", "x@0.f@", "x@0.g@0", "x@0.f@00", "x@0.v@1", "x@0.z@2", "x@0.Out'", "x@0.Out'1", "x@0.Out'2.", "x@0..f@0", "x@0 .f@0", "Int.Out'0", "T'0.Out'0", "Box[Int].Out'0", "x@0.Out'0.f@0", "(x@0 & x@0).Out'0",
		"this", "this()", "this(Main)", "this(Main#", "this(Main#))", "this(Main#[])", "this( Main#)", "this(Nope)", "this(x@0)", "This(Main#)", "this(0)",
		"(Int)", "((Int))", "()", "(", ")", "(Int & )", "(Int &)", "(Int & Int", "(Int& Int)", "(Int &Int)", "(Int  & Int)", "(Int & Int | Int)", "(Int | Int & Int)", "(Int & (Int))", "(Int & ())", "(Int, Int)", "Int & Int", "( & Int)", "(F'2 & Int)", "(Int & F'2)",
		"(Int => Int)", "((Int) => )", "((Int) =>Int)", "((Int) => Int", "((Int) => Int))", "((Int, ) => Int)", "((, Int) => Int)", "((Int,Int) => Int)", "(()=> Int)", "(() => ())", "((Int) => (Int))", "(((Int)) => Int)", "((()) => Int)", "() => Int", "(Int) => Int", "((Int) Int)", "((Int) & Int)", "((Int, Int) | Int)", "((Int) => Int => Int)", "((Int)  => Int)", "(((Int) => Int)", "((Int) *)", "(() match 0 {Int => Int})",
		"Array", "Array()", "Array(Int", "Array(Int))", "Array(Int, Int)", "Array( Int)", "Array[Int]", "Array(F'2)", "Array((Int))", "array(Int)", "Array((=> Int))", "Array((Int *))",
		"(=>Int)", "(=> Int", "(=>  Int)", "(=> )", "=> Int", "(=> (=> Int))", "(=> F'2)", "(Int*)", "(Int * )", "(Int *", "( *)", "((Int *) *)", "(Int * *)", "((Int, (=> Int)) => (Int *))", "(((Int *), Int) => Int)",
		"{1 => Int", "{1 => }", "{1=> Int}", "{ => Int}", "{0 => Int}", "{13 => Int}", "{01 => Int}", "{1 => #1^0}", "{1 => #0^1}", "{1 => #0}", "{1 => #^0}", "{1 => #00^0}", "{1 => #0^00}", "{1 => #0^}", "{1 => F'2}", "#0^0", "{1 => {1 => Int}}", "{1 => Int}}", "{-1 => Int}", "{1 => Int}(Int, Int)", "{1 => #0^-0}",
		"F'2()", "F'2(Int", "F'2(Int, Int)", "F'2(F'2)", "G'4(Int)", "G'4(Int,Int)", "T'0(Int)", "Int(Int)", "F'2 (Int)", "F'2(Int)(Int)", "Box[Int](Int)",
		"(Int match)", "(Int match 0)", "(Int match 0 )", "(Int match {Int => Int})", "(Int match 0 {Int})", "(Int match 0 {Int => Int)", "(Int match 0{Int => Int})", "(Int match 0 {Int => Int} )", "(Int match 0  {Int => Int})", "(Int match 13 {Int => Int})", "(Int match 00 {Int => Int})", "(Int match 0 {#0^0 => Int})", "(#0^0 match 1 {Int => Int})", "(Int match 0 {Int => Int => Int})", "(F'2 match 0 {Int => Int})", "(Int match 0 {Int => Int}", "(Int match 0 {Int => Int}{Int => Int})",
		"(Int with Out)", "(Int with  >: Int <: Int)", "(Int with Out >: Int)", "(Int with Out <: Int)", "(Int with Out >: Int <: Int", "(Int with Out>: Int <: Int)", "(Int with 1 >: Int <: Int)", "(Int with a+ >: Int <: Int)", "(Int with O.t >: Int <: Int)", "(Int with Out >: F'2 <: Int)", "(Int with Out >: Int <: )", "( with Out >: Int <: Int)", "(Int with Out' >: Int <: Int)", "(Int with " + strings.Repeat("n", 65) + " >: Int <: Int)",
		"(? >: Int <: Int)", "Box[(? >: Int)]", "Box[(? <: Int)]", "Box[(?>: Int <: Int)]", "Box[(? >: Int <: Int]", "Box[? >: Int <: Int]", "Box[?]", "Box[(? >: Int <: (? >: Int <: Int))]", "Box[Array((? >: Int <: Int))]", "Box[(? >: F'2 <: Int)]",
		"?", "?-1", "?100", "?00", "?1 ", "?1?", "??1", "?1[]", "?1.f@0", "?1000000000000000000000000",
		"Int\n", "\x00", "Int\x00", "\xff", "\u00dcnt", "(Int\t& Int)",
	}
	env := sampleEnv()
	for _, s := range list {
		if got, f := Read(env, s); f != (api.Fault{Code: api.ErrSyntax}) || !same(got, api.Type{}) {
			t.Errorf("Read(%q) = %s, %v; want {0, ErrSyntax}", s, words(got), f)
		}
	}
	for _, open := range []string{"(", "((", "Array(", "{1 => ", "(=> ", "Box[", "F'2(", "(Int & ", "(Int match 0 {", "Box[(? >: ", "(() => ", "((Int, "} {
		for _, n := range []int{63, 64, 65, 66, 127, 128, 129, 1000, api.MaxText / len(open)} {
			if _, f := Read(env, strings.Repeat(open, n)); f != (api.Fault{Code: api.ErrSyntax}) {
				t.Errorf("Read of %d times %q: %v; want {0, ErrSyntax}", n, open, f)
			}
		}
	}
	for _, more := range []string{".f@0", "(Int)", " & Int", ", Int", "]"} {
		if _, f := Read(env, "x@0"+strings.Repeat(more, 10000)); f != (api.Fault{Code: api.ErrSyntax}) {
			t.Errorf("Read of 10000 times %q behind x@0: %v; want {0, ErrSyntax}", more, f)
		}
	}
}

// TestReadLimits checks texts of types at the limits.
func TestReadLimits(t *testing.T) {
	env := sampleEnv()
	for _, wrap := range []func(a api.Type) api.Type{
		array,
		func(a api.Type) api.Type { return class(box, a) },
		func(a api.Type) api.Type { return fun(a, intT) },
		func(a api.Type) api.Type { return fun(a) },
		func(a api.Type) api.Type { return fun(intT, intT, a, intT) },
		func(a api.Type) api.Type { return and(a, intT) },
		func(a api.Type) api.Type { return or(intT, a) },
		func(a api.Type) api.Type { return apply(param(pairF), a) },
		func(a api.Type) api.Type { return match(0, a, intT, intT) },
		func(a api.Type) api.Type { return match(0, intT, intT, a) },
		func(a api.Type) api.Type { return refine(a, "Out", intT, intT) },
		func(a api.Type) api.Type { return refine(intT, "Out", intT, a) },
	} {
		for n, want := range map[int]api.Errno{63: api.OK, 64: api.ErrSyntax} {
			a := intT
			for range n {
				a = wrap(a)
			}
			got, f := Read(env, plain(env, a))
			if f != (api.Fault{Code: want}) || want == api.OK && !same(got, a) {
				t.Errorf("Read of a type with %d levels, as %s: %v; want %v", n+1, words(wrap(intT)), f, want)
			}
		}
	}
	a := local(x)
	for n := 2; n <= 65; n++ {
		a = field(mainF, a)
		want := api.OK
		if n > api.MaxNest {
			want = api.ErrSyntax
		}
		if _, f := Read(env, plain(env, a)); f.Code != want {
			t.Errorf("Read of a path with %d parts: %v; want %v", n, f, want)
		}
	}
	for size, want := range map[int]api.Errno{MaxSize: api.OK, MaxSize + 1: api.ErrSyntax} {
		if _, f := Read(env, plain(env, wide(size))); f.Code != want {
			t.Errorf("Read of a type with %d nodes: %v; want %v", size, f, want)
		}
	}
}

// TestReadTwins checks that the first one of several classes with a full name counts.
func TestReadTwins(t *testing.T) {
	env := sampleEnv()
	twin := env.P.Classes[inner]
	env.P.Classes = append(env.P.Classes, twin, api.Class{Name: "Q", Owner: 8}, api.Class{Name: "Box", Owner: -1}, api.Class{Name: "R", Owner: 10})
	for s, want := range map[string]api.Type{"Main#.Inner[]": class(inner), "Main#.Inner.Q[]": class(9), "Box[Int]": class(box, intT), "Box.R[]": class(11), "this(Box)": this(box)} {
		if got, f := Read(env, s); f.Code != api.OK || !same(got, want) {
			t.Errorf("Read(%q) = %s, %v; want %s", s, words(got), f, words(want))
		}
	}
	if s, e := Text(env, class(10)); s != "Box[]" || e != api.OK {
		t.Errorf("Text of the second Box = %q, %v", s, e)
	}
	if got, f := Read(env, "Box[]"); f.Code != api.ErrSyntax {
		t.Errorf("Read of the second Box = %s, %v; want ErrSyntax, as the first one counts", words(got), f)
	}
	env.P.Classes[nest].Owner = deep
	if got, f := Read(env, "Main#.Nest#.Deep[]"); f.Code != api.ErrSyntax {
		t.Errorf("Read of a class in a cycle = %s, %v; want ErrSyntax", words(got), f)
	}
}

// TestReadAtRandom checks that what is read has the text, whatever the text is.
func TestReadAtRandom(t *testing.T) {
	m, env := newMaker(9), sampleEnv()
	pieces := []string{"(", ")", "[", "]", "{", "}", " & ", " | ", ", ", " => ", "=> ", "? >: ", " <: ", " match 0 {", " with Out >: ", " *)", "Int", "Box[Int]", "x@0", ".f@0", "T'0", "F'2", "this(Main#)", "#", "^", ".", "0", "1", "?", "Array(", " "}
	count := 0
	for range 25000 {
		s := plain(env, m.proper(4, nil))
		for range 1 + m.Intn(3) {
			at, end := m.Intn(len(s)+1), 0
			if end = at; m.sometimes(2) {
				end = min(len(s), at+m.Intn(4))
			}
			piece := ""
			if !m.sometimes(3) {
				piece = pieces[m.Intn(len(pieces))]
			}
			s = s[:at] + piece + s[end:]
		}
		got, f := Read(env, s)
		if f != (api.Fault{}) {
			if f != (api.Fault{Code: api.ErrSyntax}) || !same(got, api.Type{}) {
				t.Fatalf("Read(%q) = %s, %v", s, words(got), f)
			}
			continue
		}
		count++
		if Check(env, got) != api.OK || plain(env, got) != s {
			t.Fatalf("Read(%q) = %s", s, words(got))
		}
	}
	if count < 500 {
		t.Errorf("only %d texts could be read", count)
	}
}

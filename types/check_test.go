package types

import (
	"math"
	"slices"
	"testing"

	"newel/api"
	"newel/symbols"
)

// P7.1: Check and Arity.

func withKind(t api.Type, kind int) api.Type         { t.Kind = kind; return t }
func withSym(t api.Type, sym int) api.Type           { t.Sym = sym; return t }
func withNum(t api.Type, num int) api.Type           { t.Num = num; return t }
func withName(t api.Type, name string) api.Type      { t.Name = name; return t }
func withArgs(t api.Type, args ...api.Type) api.Type { t.Args = args; return t }

// rightTypes returns types that Check accepts, some of each kind.
func rightTypes() []api.Type {
	list := []api.Type{
		class(mainObject), class(plus), class(box, intT), class(box, wild(nothingT, intT)), class(box, wild(wildBox(), anyT)),
		class(pair, intT, param(pairF)), class(pair, wild(intT, intT), wild(nothingT, anyT)), class(pair, intT, lambda(1, array(bound(0, 0)))),
		param(boxT), param(freeG), param(pairF), lambda(2, apply(param(freeG), bound(0, 0), bound(1, 0))),
		member(boxOut, local(x)), member(mainFun, this(mainObject)), member(traitOut, field(mainF, local(op))),
		this(mainObject), this(box), this(plus), local(x), local(op), field(mainF, this(mainObject)), field(deepD, field(boxB, local(x))),
		and(intT, stringT), and(times(20, intT)...), or(intT, intT), or(times(20, intT)...),
		fun(intT), fun(times(13, intT)...), fun(byName(intT), byName(array(intT)), repeat(intT), intT), fun(byName(intT), intT), fun(repeat(intT), intT), fun(intT, intT, repeat(intT), intT), fun(fun(repeat(intT), intT), intT), fun(intT, byName(intT), intT),
		array(intT), array(array(variable(0))), byName(intT), repeat(intT), byName(array(intT)), repeat(fun(byName(intT), intT)),
		lambda(1, intT), lambda(12, bound(11, 0)), lambda(2, array(bound(1, 0))), lambda(2, apply(lambda(1, bound(1, 1)), bound(0, 0))),
		apply(param(pairF), intT), apply(param(freeG), intT, stringT), apply(member(mainFun, this(mainObject)), intT, intT), apply(append([]api.Type{lambda(12, intT)}, times(12, intT)...)...),
		match(0, intT, stringT, intT), match(12, intT, bound(11, 0), bound(0, 0)), match(1, times(41, intT)...), match(2, intT, array(bound(0, 0)), bound(1, 0), stringT, bound(1, 0)),
		lambda(1, match(2, bound(0, 0), bound(1, 0), bound(0, 1))), lambda(1, match(0, bound(0, 0), intT, bound(0, 1))), lambda(3, lambdaInside(bound(2, 1))),
		refine(intT, "Out", nothingT, anyT), refine(class(box, intT), "+", intT, intT), refine(refine(intT, "A", intT, intT), "B", intT, intT),
		variable(0), variable(99),
	}
	for kind := api.TAny; kind <= api.TString; kind++ {
		list = append(list, basic(kind))
	}
	return list
}

func wildBox() api.Type { return class(box, wild(intT, anyT)) }

// lambdaInside returns a proper type with a body inside of a binder with one variable.
func lambdaInside(body api.Type) api.Type { return class(pair, intT, lambda(1, body)) }

func TestRightTypes(t *testing.T) {
	env := sampleEnv()
	seen := map[int]bool{}
	for _, r := range rightTypes() {
		walk(r, func(n api.Type) { seen[n.Kind] = true })
		if e := Check(env, r); e != api.OK {
			t.Errorf("Check(%s) = %v; want OK", words(r), e)
		}
	}
	for kind := api.TAny; kind < api.TKinds; kind++ {
		if !seen[kind] {
			t.Errorf("no right type with the kind %d", kind)
		}
	}
}

// TestKinds checks rule 1.
func TestKinds(t *testing.T) {
	for _, kind := range []int{math.MinInt, -1, 0, api.TKinds, api.TKinds + 1, math.MaxInt} {
		mustFail(t, api.ErrKind, api.Type{Kind: kind})
		mustFail(t, api.ErrKind, api.Type{Kind: kind, Sym: -1, Num: -1, Name: "a b", Args: []api.Type{intT}})
		mustFail(t, api.ErrKind, array(basic(kind)))
	}
}

func mustFail(t *testing.T, want api.Errno, a api.Type) {
	t.Helper()
	if e := Check(sampleEnv(), a); e != want {
		t.Errorf("Check(%s) = %v; want %v", words(a), e, want)
	}
}

// uses says which fields the kinds use, and how many Args they may have.
var uses = map[int]struct {
	fields string
	least  int
	most   int
}{
	api.TAny: {"", 0, 0}, api.TNothing: {"", 0, 0}, api.TNull: {"", 0, 0}, api.TUnit: {"", 0, 0}, api.TBoolean: {"", 0, 0}, api.TChar: {"", 0, 0}, api.TInt: {"", 0, 0}, api.TLong: {"", 0, 0}, api.TString: {"", 0, 0},
	api.TClass: {"s", 0, 1 << 20}, api.TParam: {"s", 0, 0}, api.TMember: {"s", 1, 1}, api.TThis: {"s", 0, 0}, api.TLocal: {"s", 0, 0}, api.TField: {"s", 1, 1},
	api.TAnd: {"", 2, 20}, api.TOr: {"", 2, 20}, api.TFun: {"", 1, 13}, api.TArray: {"", 1, 1}, api.TByName: {"", 1, 1}, api.TRepeat: {"", 1, 1},
	api.TLambda: {"n", 1, 1}, api.TBound: {"sn", 0, 0}, api.TApply: {"", 2, 13}, api.TMatch: {"n", 3, 41}, api.TRefine: {"N", 3, 3}, api.TWild: {"", 2, 2}, api.TVar: {"n", 0, 0},
}

// TestForms checks rule 2.
func TestForms(t *testing.T) {
	env := sampleEnv()
	for kind, u := range uses {
		isForm := func(a api.Type) bool { return Check(env, a) == api.ErrForm }
		right := api.Type{Kind: kind, Args: times(max(u.least, 0), intT)}
		if isForm(right) {
			t.Errorf("Check(%s) = ErrForm", words(right))
		}
		for field, a := range map[rune]api.Type{'s': withSym(right, 1), 'n': withNum(right, 1), 'N': withName(right, "Out")} {
			if used := slices.Contains([]rune(u.fields), field); isForm(a) == used {
				t.Errorf("Check(%s) = ErrForm is %v; want %v", words(a), isForm(a), !used)
			}
		}
		for field, a := range map[rune]api.Type{'s': withSym(right, -1), 'n': withNum(right, -1), 'N': withName(right, " ")} {
			if used := slices.Contains([]rune(u.fields), field); isForm(a) == used {
				t.Errorf("Check(%s) = ErrForm is %v; want %v", words(a), isForm(a), !used)
			}
		}
		for n := range 60 {
			want := n < u.least || n > u.most || kind == api.TMatch && n%2 == 0
			if a := withArgs(right, times(n, intT)...); isForm(a) != want {
				t.Errorf("Check of the kind %d with %d Args is ErrForm: %v; want %v", kind, n, isForm(a), want)
			}
		}
	}
}

// TestRanges checks rule 3.
func TestRanges(t *testing.T) {
	for kind, size := range map[int]int{api.TClass: 8, api.TParam: 6, api.TMember: 3, api.TThis: 8, api.TLocal: 4, api.TField: 5} {
		a := symbol(kind, 0)
		if kind == api.TMember || kind == api.TField {
			a.Args = []api.Type{this(mainObject)}
		}
		for _, sym := range []int{math.MinInt, -1, size, size + 1, math.MaxInt} {
			mustFail(t, api.ErrRange, withSym(a, sym))
		}
		for sym := range size {
			if e := Check(sampleEnv(), withSym(a, sym)); e == api.ErrRange {
				t.Errorf("Check of the kind %d with Sym %d = ErrRange", kind, sym)
			}
		}
	}
	for _, a := range []api.Type{
		lambda(0, intT), lambda(-1, intT), lambda(13, intT), lambda(math.MaxInt, intT),
		match(-1, intT, intT, intT), match(13, intT, intT, intT), match(math.MinInt, intT, intT, intT),
		variable(-1), variable(100), variable(math.MaxInt),
		bound(0, 0), bound(-1, 0), bound(0, 1), array(bound(0, 0)),
		lambda(1, bound(1, 0)), lambda(1, bound(-1, 0)), lambda(1, bound(0, 1)), lambda(1, bound(0, -1)), lambda(12, bound(12, 0)), lambda(1, bound(0, math.MinInt)), lambda(1, bound(0, math.MaxInt)),
		lambda(3, lambdaInside(bound(1, 0))), lambda(3, lambdaInside(bound(3, 1))), lambda(3, lambdaInside(bound(0, 2))),
		match(1, bound(0, 0), intT, intT), match(0, intT, bound(0, 0), intT), match(0, intT, intT, bound(0, 0)), match(1, intT, bound(1, 0), intT), match(1, intT, intT, bound(1, 0)), match(1, intT, intT, intT, bound(1, 0), intT), match(1, intT, intT, intT, intT, bound(0, 1)),
		lambda(1, match(2, bound(1, 0), intT, intT)), lambda(1, match(2, bound(0, 1), intT, intT)), lambda(1, match(2, intT, bound(2, 0), intT)), lambda(1, match(2, intT, bound(1, 1), intT)),
		fun(class(pair, intT, lambda(1, intT)), bound(0, 0)), or(lambdaInside(bound(0, 0)), bound(0, 0)),
	} {
		mustFail(t, api.ErrRange, a)
	}
	env := sampleEnv()
	env.P.Classes[pair].TParams = []int{pairA, 6}
	for args := range 4 {
		if e := Check(env, class(pair, times(args, intT)...)); e != api.ErrRange {
			t.Errorf("Check of a class whose type parameter does not exist = %v; want ErrRange", e)
		}
	}
	if e := Check(env, this(pair)); e != api.OK {
		t.Errorf("Check of this of a class whose type parameter does not exist = %v; want OK", e)
	}
	if e := Check(api.Env{P: sample()}, local(x)); e != api.ErrRange {
		t.Errorf("Check of a local where there is none = %v; want ErrRange", e)
	}
}

// TestArities checks rule 4.
func TestArities(t *testing.T) {
	f, g, id := param(pairF), param(freeG), lambda(1, bound(0, 0))
	wrong := []api.Type{
		class(mainObject, intT), class(box), class(box, intT, intT), class(pair), class(pair, intT), class(pair, intT, f, f),
		class(box, f), class(box, id), class(pair, f, f), class(pair, intT, intT), class(pair, intT, g), class(pair, wild(intT, intT), g), class(pair, intT, lambda(2, intT)), class(pair, intT, member(mainFun, local(x))),
		apply(intT, intT), apply(f, intT, intT), apply(g, intT), apply(id, intT, intT), apply(lambda(2, intT), intT), apply(apply(f, intT), intT), apply(f, f), apply(f, id), apply(g, intT, f), apply(member(mainFun, local(x)), intT),
		lambda(1, f), lambda(1, id), array(f), array(g), and(intT, f), and(f, intT), or(f, f), or(intT, id), fun(f), fun(f, intT), fun(intT, id), byName(f), repeat(id),
		match(1, f, intT, intT), match(1, intT, id, intT), match(1, intT, intT, id), match(1, intT, intT, intT, f, intT), match(1, intT, intT, intT, intT, f),
		refine(f, "Out", intT, intT), refine(intT, "Out", f, intT), refine(intT, "Out", intT, id), class(box, wild(f, intT)), class(box, wild(intT, f)), class(pair, intT, wild(f, f)), wild(f, intT),
		member(boxOut, f), field(mainF, id), fun(byName(f), intT),
	}
	for _, a := range wrong {
		mustFail(t, api.ErrArity, a)
	}
}

// TestPlaces checks rule 5.
func TestPlaces(t *testing.T) {
	wrong := []api.Type{
		member(boxOut, intT), member(boxOut, class(box, intT)), member(boxOut, param(boxT)), member(boxOut, member(boxOut, local(x))), member(boxOut, nullT), field(mainF, and(local(x), local(x))), field(mainF, param(boxT)), field(mainF, class(mainObject)),
		local(y), local(z), field(mainVar, this(mainObject)), field(mainLazy, this(mainObject)), field(mainVar, intT), member(boxOut, local(y)), member(boxOut, field(mainLazy, local(x))),
		array(byName(intT)), array(repeat(intT)), fun(byName(intT)), fun(intT, byName(intT)), fun(repeat(intT)), fun(intT, repeat(intT)), and(byName(intT), intT), or(intT, repeat(intT)), byName(byName(intT)), repeat(repeat(intT)), byName(repeat(intT)), lambda(1, byName(intT)), class(box, byName(intT)), class(box, repeat(intT)), class(box, wild(byName(intT), intT)), apply(param(pairF), byName(intT)), match(0, byName(intT), intT, intT), match(0, intT, repeat(intT), intT), refine(byName(intT), "Out", intT, intT), refine(intT, "Out", repeat(intT), intT),
		fun(repeat(intT), intT, intT), fun(repeat(intT), repeat(intT), intT), fun(intT, repeat(intT), byName(intT), intT), fun(array(byName(intT)), intT), fun(fun(intT, repeat(intT)), intT),
		wild(intT, intT), array(wild(intT, intT)), fun(wild(intT, intT), intT), class(box, array(wild(intT, intT))), class(box, wild(wild(intT, intT), intT)), class(box, wild(intT, wild(intT, intT))), apply(param(pairF), wild(intT, intT)), or(wild(intT, intT), intT), lambda(1, wild(intT, intT)), byName(wild(intT, intT)), refine(wild(intT, intT), "Out", intT, intT),
		refine(intT, "", intT, intT), refine(intT, "a b", intT, intT), refine(intT, "1", intT, intT), refine(intT, "a+", intT, intT), refine(intT, "a.b", intT, intT),
	}
	for _, a := range wrong {
		mustFail(t, api.ErrInvalid, a)
	}
	env := sampleEnv()
	for flag := 1; flag < api.Flags; flag *= 2 {
		env.Locals[x].Flags, env.P.Fields[mainF].Flags = flag, flag
		want := api.OK
		if flag == api.Var || flag == api.Lazy {
			want = api.ErrInvalid
		}
		if a, b := Check(env, local(x)), Check(env, field(mainF, this(0))); a != want || b != want {
			t.Errorf("Check of a local and a field with the flag %d = %v, %v; want %v", flag, a, b, want)
		}
	}
	env.Locals[x].Flags = -1
	if e := Check(env, local(x)); e != api.ErrInvalid {
		t.Errorf("Check of a local with all flags = %v; want ErrInvalid", e)
	}
}

// TestOrder checks that of several errors the one in the first node counts, and of these the one of the first rule.
func TestOrder(t *testing.T) {
	env := sampleEnv()
	kind, form, wide := basic(0), withSym(intT, 1), nested(64, intT)
	errors := []struct {
		code api.Errno
		t    api.Type
	}{
		{api.ErrKind, kind},
		{api.ErrForm, form},
		{api.ErrRange, param(9)},
		{api.ErrRange, array(param(9))},
		{api.ErrArity, apply(intT, intT)},
		{api.ErrArity, array(param(pairF))},
		{api.ErrInvalid, local(y)},
		{api.ErrInvalid, refine(intT, "", intT, intT)},
		{api.ErrForm, withArgs(refine(intT, "", intT, intT), intT, intT)},
		{api.ErrForm, withNum(refine(intT, "", intT, intT), 1)},
		{api.ErrForm, withSym(lambda(0, intT), 1)},
		{api.ErrRange, lambda(0, param(pairF))},
		{api.ErrRange, lambda(0, kind)},
		{api.ErrForm, withSym(array(kind), 2)},
		{api.ErrKind, array(kind)},
		{api.ErrArity, refine(param(pairF), "", intT, intT)},
		{api.ErrInvalid, refine(kind, "", intT, intT)},
		{api.ErrInvalid, member(boxOut, kind)},
		{api.ErrRange, member(7, kind)},
		{api.ErrArity, member(boxOut, param(pairF))},
		{api.ErrRange, fun(byName(param(9)), intT)},
		{api.ErrInvalid, array(byName(kind))},
		{api.ErrForm, array(withSym(byName(intT), 1))},
		{api.ErrArity, array(byName(param(pairF)))},
		{api.ErrInvalid, array(wild(kind, kind))},
		{api.ErrForm, array(withArgs(wild(kind, kind), kind))},
	}
	for _, a := range errors {
		if e := Check(env, a.t); e != a.code {
			t.Errorf("Check(%s) = %v; want %v", words(a.t), e, a.code)
		}
		for _, b := range errors {
			if (a.t.Kind == api.TLambda || b.t.Kind == api.TLambda) || Arity(env, a.t)+Arity(env, b.t) > 0 {
				continue // rule 4 of the function would come first
			}
			if e := Check(env, fun(a.t, b.t)); e != a.code {
				t.Errorf("Check(%s) = %v; want %v", words(fun(a.t, b.t)), e, a.code)
			}
		}
		if e := Check(env, fun(append([]api.Type{a.t}, times(2000, intT)...)...)); e != api.ErrLimit {
			t.Errorf("Check of a type that is too large with %s = %v; want ErrLimit", words(a.t), e)
		}
		if e := Check(env, fun(a.t, wide)); e != api.ErrDepth {
			t.Errorf("Check of a type that is too deep with %s = %v; want ErrDepth", words(a.t), e)
		}
	}
}

func TestCheckLimits(t *testing.T) {
	deep := api.MaxNest + 1
	for _, c := range []struct {
		what string
		t    api.Type
		want api.Errno
	}{
		{"2000 nodes", wide(MaxSize), api.OK},
		{"2001 nodes", wide(MaxSize + 1), api.ErrLimit},
		{"64 levels", nested(api.MaxNest-1, intT), api.OK},
		{"65 levels", nested(api.MaxNest, intT), api.ErrDepth},
		{"1999 levels", nested(1998, intT), api.ErrDepth},
		{"2001 levels", nested(MaxSize, intT), api.ErrLimit},
		{"too many nodes behind too many levels", fun(nested(deep, intT), wide(MaxSize)), api.ErrLimit},
		{"endless", endless(), api.ErrLimit},
	} {
		if e := Check(sampleEnv(), c.t); e != c.want {
			t.Errorf("Check of a type with %s = %v; want %v", c.what, e, c.want)
		}
	}
}

// endless returns a type that contains itself.
func endless() api.Type {
	t := api.Type{Kind: api.TFun, Args: make([]api.Type, 2)}
	t.Args[0], t.Args[1] = t, t
	return t
}

func TestArity(t *testing.T) {
	env := sampleEnv()
	for _, r := range rightTypes() {
		want := 0
		switch {
		case r.Kind == api.TLambda:
			want = r.Num
		case same(r, param(pairF)):
			want = 1
		case same(r, param(freeG)), same(r, member(mainFun, this(mainObject))):
			want = 2
		}
		if got := Arity(env, r); got != want {
			t.Errorf("Arity(%s) = %d; want %d", words(r), got, want)
		}
	}
	for _, sym := range []int{math.MinInt, -1, 6, math.MaxInt} {
		if a, b := Arity(env, param(sym)), Arity(env, member(sym, this(0))); a != 0 || b != 0 {
			t.Errorf("Arity of a symbol that does not exist = %d, %d; want 0", a, b)
		}
	}
	env.P.TParams[0].Arity, env.P.Types[0].Arity = 12, 11
	if a, b := Arity(env, param(0)), Arity(env, member(0, intT)); a != 12 || b != 11 {
		t.Errorf("Arity of symbols with the Arity 12 and 11 = %d, %d", a, b)
	}
	if a := Arity(api.Env{}, lambda(-3, intT)); a != -3 {
		t.Errorf("Arity of a TLambda with Num -3 = %d", a)
	}
}

// place of a node in a type, for the oracle.
type spot struct {
	root    bool
	parent  api.Type
	index   int
	binders []int // from the inside on
}

// firstError is another way to write down the rules: all conditions of a node in their order, and then those of its Args.
func firstError(env api.Env, t api.Type, at spot) api.Errno {
	for _, c := range conditions(env, t, at) {
		if !c.holds() {
			return c.code
		}
	}
	for i, a := range t.Args {
		binders := at.binders
		if t.Kind == api.TLambda || t.Kind == api.TMatch && i > 0 {
			binders = append([]int{t.Num}, binders...)
		}
		if e := firstError(env, a, spot{false, t, i, binders}); e != api.OK {
			return e
		}
	}
	return api.OK
}

type condition struct {
	code  api.Errno
	holds func() bool
}

func conditions(env api.Env, t api.Type, at spot) []condition {
	within := func(n, lo, hi int) bool { return lo <= n && n <= hi }
	u := uses[t.Kind]
	unused := func(field rune, isZero bool) bool { return isZero || slices.Contains([]rune(u.fields), field) }
	isParameter := !at.root && at.parent.Kind == api.TFun && at.index+1 < len(at.parent.Args)
	arity := func(i int) int { return Arity(env, t.Args[i]) }
	return []condition{
		{api.ErrKind, func() bool { return within(t.Kind, 1, 28) }},
		{api.ErrForm, func() bool { return unused('s', t.Sym == 0) && unused('N', t.Name == "") && unused('n', t.Num == 0) }},
		{api.ErrForm, func() bool {
			return within(len(t.Args), u.least, u.most) && (t.Kind != api.TMatch || len(t.Args)%2 > 0)
		}},
		{api.ErrRange, func() bool {
			return !slices.Contains([]int{api.TClass, api.TThis}, t.Kind) || within(t.Sym, 0, len(env.P.Classes)-1)
		}},
		{api.ErrRange, func() bool { return t.Kind != api.TParam || within(t.Sym, 0, len(env.P.TParams)-1) }},
		{api.ErrRange, func() bool { return t.Kind != api.TMember || within(t.Sym, 0, len(env.P.Types)-1) }},
		{api.ErrRange, func() bool { return t.Kind != api.TLocal || within(t.Sym, 0, len(env.Locals)-1) }},
		{api.ErrRange, func() bool { return t.Kind != api.TField || within(t.Sym, 0, len(env.P.Fields)-1) }},
		{api.ErrRange, func() bool { return t.Kind != api.TLambda || within(t.Num, 1, 12) }},
		{api.ErrRange, func() bool { return t.Kind != api.TMatch || within(t.Num, 0, 12) }},
		{api.ErrRange, func() bool { return t.Kind != api.TVar || within(t.Num, 0, 99) }},
		{api.ErrRange, func() bool {
			return t.Kind != api.TBound || within(t.Sym, 0, len(at.binders)-1) && within(t.Num, 0, at.binders[t.Sym]-1)
		}},
		{api.ErrArity, func() bool { return t.Kind != api.TClass || len(env.P.Classes[t.Sym].TParams) == len(t.Args) }},
		{api.ErrArity, func() bool {
			for i, a := range t.Args {
				switch {
				case t.Kind == api.TClass && a.Kind != api.TWild && arity(i) != env.P.TParams[env.P.Classes[t.Sym].TParams[i]].Arity:
					return false
				case t.Kind == api.TApply && i == 0 && arity(i) != len(t.Args[1:]):
					return false
				case t.Kind != api.TClass && !(t.Kind == api.TApply && i == 0) && arity(i) != 0:
					return false
				}
			}
			return true
		}},
		{api.ErrInvalid, func() bool {
			return t.Kind != api.TMember && t.Kind != api.TField || slices.Contains([]int{api.TThis, api.TLocal, api.TField}, t.Args[0].Kind)
		}},
		{api.ErrInvalid, func() bool { return t.Kind != api.TLocal || env.Locals[t.Sym].Flags&(128+256) == 0 }},
		{api.ErrInvalid, func() bool { return t.Kind != api.TField || env.P.Fields[t.Sym].Flags&(128+256) == 0 }},
		{api.ErrInvalid, func() bool { return t.Kind != api.TByName && t.Kind != api.TRepeat || at.root || isParameter }},
		{api.ErrInvalid, func() bool { return t.Kind != api.TRepeat || at.root || at.index+2 == len(at.parent.Args) }},
		{api.ErrInvalid, func() bool { return t.Kind != api.TWild || !at.root && at.parent.Kind == api.TClass }},
		{api.ErrInvalid, func() bool { return t.Kind != api.TRefine || symbols.IsName(t.Name) }},
	}
}

// TestCheckAtRandom compares Check with the other way to write it down.
func TestCheckAtRandom(t *testing.T) {
	m, env := newMaker(1), sampleEnv()
	count := map[api.Errno]int{}
	for range 30000 {
		a := m.proper(1+m.Intn(5), nil)
		if e := Check(env, a); e != api.OK {
			t.Fatalf("Check(%s) = %v; want OK", words(a), e)
		}
		if m.sometimes(8) {
			a = m.junk(4)
		}
		for range m.Intn(3) {
			a = m.spoiled(a)
		}
		want := firstError(env, a, spot{root: true})
		count[want]++
		if e := Check(env, a); e != want {
			t.Fatalf("Check(%s) = %v; want %v", words(a), e, want)
		}
	}
	for _, e := range []api.Errno{api.OK, api.ErrKind, api.ErrForm, api.ErrRange, api.ErrArity, api.ErrInvalid} {
		if count[e] < 100 {
			t.Errorf("only %d types with the error %v", count[e], e)
		}
	}
}

package types

import (
	"math/rand"
	"slices"
	"strings"
	"testing"

	"newel/api"
	"newel/symbols"
)

// What the sample has.
const (
	mainObject, box, pair, inner, nest, deep, aTrait, plus = 0, 1, 2, 3, 4, 5, 6, 7 // classes
	boxT, pairA, pairF, freeU, freeG, boxV                 = 0, 1, 2, 3, 4, 5       // type parameters: pairF has the arity 1, freeG 2
	boxOut, mainFun, traitOut                              = 0, 1, 2                // type members: mainFun has the arity 2
	mainF, mainVar, mainLazy, boxB, deepD                  = 0, 1, 2, 3, 4          // fields
	free, boxM                                             = 0, 1                   // methods
	x, op, y, z                                            = 0, 1, 2, 3             // locals of free: x and op are parameters, y is a var, z is lazy
)

func basic(kind int) api.Type       { return api.Type{Kind: kind} }
func symbol(kind, sym int) api.Type { return api.Type{Kind: kind, Sym: sym} }
func class(sym int, args ...api.Type) api.Type {
	return api.Type{Kind: api.TClass, Sym: sym, Args: args}
}
func param(sym int) api.Type          { return symbol(api.TParam, sym) }
func this(sym int) api.Type           { return symbol(api.TThis, sym) }
func local(sym int) api.Type          { return symbol(api.TLocal, sym) }
func and(args ...api.Type) api.Type   { return api.Type{Kind: api.TAnd, Args: args} }
func or(args ...api.Type) api.Type    { return api.Type{Kind: api.TOr, Args: args} }
func fun(args ...api.Type) api.Type   { return api.Type{Kind: api.TFun, Args: args} }
func array(t api.Type) api.Type       { return api.Type{Kind: api.TArray, Args: []api.Type{t}} }
func byName(t api.Type) api.Type      { return api.Type{Kind: api.TByName, Args: []api.Type{t}} }
func repeat(t api.Type) api.Type      { return api.Type{Kind: api.TRepeat, Args: []api.Type{t}} }
func bound(num, sym int) api.Type     { return api.Type{Kind: api.TBound, Num: num, Sym: sym} }
func apply(args ...api.Type) api.Type { return api.Type{Kind: api.TApply, Args: args} }
func wild(lo, hi api.Type) api.Type   { return api.Type{Kind: api.TWild, Args: []api.Type{lo, hi}} }
func variable(num int) api.Type       { return api.Type{Kind: api.TVar, Num: num} }

func member(sym int, prefix api.Type) api.Type {
	return api.Type{Kind: api.TMember, Sym: sym, Args: []api.Type{prefix}}
}

func field(sym int, prefix api.Type) api.Type {
	return api.Type{Kind: api.TField, Sym: sym, Args: []api.Type{prefix}}
}

func lambda(num int, body api.Type) api.Type {
	return api.Type{Kind: api.TLambda, Num: num, Args: []api.Type{body}}
}

func match(num int, args ...api.Type) api.Type {
	return api.Type{Kind: api.TMatch, Num: num, Args: args}
}

func refine(t api.Type, name string, lo, hi api.Type) api.Type {
	return api.Type{Kind: api.TRefine, Name: name, Args: []api.Type{t, lo, hi}}
}

var (
	anyT     = basic(api.TAny)
	nothingT = basic(api.TNothing)
	nullT    = basic(api.TNull)
	unitT    = basic(api.TUnit)
	intT     = basic(api.TInt)
	longT    = basic(api.TLong)
	stringT  = basic(api.TString)
)

// times returns a list of that many of a type.
func times(n int, t api.Type) []api.Type {
	return slices.Repeat([]api.Type{t}, n)
}

// nested puts a type into that many arrays.
func nested(n int, t api.Type) api.Type {
	for range n {
		t = array(t)
	}
	return t
}

// wide returns a type with that many nodes, at least 3, that Check accepts: functions of functions.
func wide(size int) api.Type {
	if size <= 13 {
		return fun(times(size-1, intT)...)
	}
	rest := (size - 1) % 12
	args := make([]api.Type, 12)
	for i := range args {
		part := (size - 1) / 12
		if i < rest {
			part++
		}
		args[i] = intT
		if part > 1 {
			args[i] = wideAny(part)
		}
	}
	return fun(args...)
}

// wideAny is wide for sizes from 1 on.
func wideAny(size int) api.Type {
	switch size {
	case 1:
		return intT
	case 2:
		return array(intT)
	}
	return wide(size)
}

// sample returns a program that CheckAll accepts, with something of each part.
func sample() api.Program {
	body := &api.Tree{Kind: api.ELit}
	any := []api.Type{anyT}
	p := api.Program{
		Classes: []api.Class{
			{Name: "Main", Kind: api.IsObject, Owner: -1, Parents: any, Fields: []int{mainF, mainVar, mainLazy}, Types: []int{mainFun}},
			{Name: "Box", Owner: -1, Parents: any, TParams: []int{boxT}, Params: []int{boxB}, Fields: []int{boxB}, Types: []int{boxOut}, Methods: []int{boxM}},
			{Name: "Pair", Owner: -1, Parents: any, TParams: []int{pairA, pairF}},
			{Name: "Inner", Owner: mainObject, Parents: []api.Type{class(box, intT)}},
			{Name: "Nest", Kind: api.IsObject, Owner: mainObject, Parents: any},
			{Name: "Deep", Owner: nest, Parents: []api.Type{class(pair, class(inner), lambda(1, bound(0, 0)))}, Fields: []int{deepD}},
			{Name: "Trait", Kind: api.IsTrait, Owner: box, Parents: any, Types: []int{traitOut}},
			{Name: "+", Owner: -1, Parents: any},
		},
		TParams: []api.TypeParam{
			{Name: "T", Class: box, Method: -1},
			{Name: "A", Class: pair, Method: -1, Variance: api.Covariant},
			{Name: "F", Class: pair, Method: -1, Arity: 1},
			{Name: "U", Class: -1, Method: free},
			{Name: "G", Class: -1, Method: free, Arity: 2},
			{Name: "V", Class: -1, Method: boxM},
		},
		Types: []api.TypeMember{
			{Name: "Out", Owner: box},
			{Name: "Fun", Owner: mainObject, Arity: 2},
			{Name: "Out", Owner: aTrait},
		},
		Fields: []api.Field{
			{Name: "f", Owner: mainObject, Type: intT},
			{Name: "v", Owner: mainObject, Flags: api.Var | api.Volatile, Type: intT},
			{Name: "z", Owner: mainObject, Flags: api.Lazy, Type: intT},
			{Name: "b", Owner: box, Type: param(boxT)},
			{Name: "d", Owner: deep, Type: class(inner)},
		},
		Methods: []api.Method{
			{Name: "free", Owner: -1, TParams: []int{freeU, freeG}, Params: 2, Body: body, Result: intT, Locals: []api.Local{
				{Name: "x", Type: stringT},
				{Name: "+", Type: intT},
				{Name: "y", Flags: api.Var, Type: intT},
				{Name: "z", Flags: api.Lazy, Type: intT},
			}},
			{Name: "m", Owner: box, TParams: []int{boxV}, Params: 2, Body: body, Result: unitT, Locals: []api.Local{
				{Name: "a", Type: intT},
				{Name: "u", Flags: api.Using, Type: intT},
				{Name: "w", Type: intT},
			}},
		},
		Main: -1,
	}
	for i := range p.TParams {
		p.TParams[i].Lo, p.TParams[i].Hi = nothingT, anyT
	}
	for i := range p.Types {
		p.Types[i].Lo, p.Types[i].Hi = nothingT, anyT
	}
	return p
}

// sampleEnv returns the sample, with locals.
func sampleEnv() api.Env {
	return api.Env{P: sample(), Locals: []api.Local{{Name: "x"}, {Name: "+", Flags: api.Using}, {Name: "y", Flags: api.Var}, {Name: "z", Flags: api.Lazy | api.Given}}}
}

func TestSample(t *testing.T) {
	p := sample()
	if f := symbols.Check(p); f != (symbols.Fault{}) {
		t.Fatalf("symbols.Check of the sample = %v; want no fault", f)
	}
	if f := CheckAll(p); f != (symbols.Fault{}) {
		t.Fatalf("CheckAll of the sample = %v; want no fault", f)
	}
	for size := 3; size < 3000; size++ {
		n := 0
		walk(wide(size), func(api.Type) { n++ })
		if n != size {
			t.Fatalf("wide(%d) has %d nodes", size, n)
		}
	}
}

// walk visits the nodes of a type: not by the function of the package.
func walk(t api.Type, see func(api.Type)) {
	see(t)
	for _, a := range t.Args {
		walk(a, see)
	}
}

// words writes a type with all its fields, to compare types and to show them.
func words(t api.Type) string {
	names := [...]string{"None", "Any", "Nothing", "Null", "Unit", "Boolean", "Char", "Int", "Long", "String", "Class", "Param", "Member", "This", "Local", "Field", "And", "Or", "Fun", "Array", "ByName", "Repeat", "Lambda", "Bound", "Apply", "Match", "Refine", "Wild", "Var"}
	var s strings.Builder
	if t.Kind >= 0 && t.Kind < len(names) {
		s.WriteString(names[t.Kind])
	} else {
		s.WriteString("kind" + digitsOf(t.Kind))
	}
	if t.Sym != 0 {
		s.WriteString("s" + digitsOf(t.Sym))
	}
	if t.Num != 0 {
		s.WriteString("n" + digitsOf(t.Num))
	}
	if t.Name != "" {
		s.WriteString("'" + t.Name + "'")
	}
	if len(t.Args) > 0 {
		s.WriteString("(")
		for i, a := range t.Args {
			if i > 0 {
				s.WriteString(" ")
			}
			s.WriteString(words(a))
		}
		s.WriteString(")")
	}
	return s.String()
}

func same(a, b api.Type) bool { return words(a) == words(b) }

// maker makes types at random, the same ones in each run.
type maker struct{ *rand.Rand }

func newMaker(seed int64) maker { return maker{rand.New(rand.NewSource(seed))} }

// sometimes reports true once in that many times.
func (m maker) sometimes(times int) bool { return m.Intn(times) == 0 }

// singleton returns a singleton type of the sample.
func (m maker) singleton() api.Type {
	t := this(m.Intn(8))
	if m.sometimes(2) {
		t = local([]int{x, op}[m.Intn(2)])
	}
	for m.sometimes(3) {
		t = field([]int{mainF, boxB, deepD}[m.Intn(3)], t)
	}
	return t
}

// leaf returns a proper type of the sample without other proper types in it. Binders are given from the inside on.
func (m maker) leaf(binders []int) api.Type {
	k := m.Intn(12)
	if depth := m.Intn(len(binders) + 1); k > 8 && depth < len(binders) && binders[depth] > 0 {
		return bound(m.Intn(binders[depth]), depth)
	}
	switch {
	case k < 4:
		return basic(api.TAny + m.Intn(9))
	case k < 6:
		return class([]int{mainObject, inner, nest, deep, aTrait, plus}[m.Intn(6)])
	case k == 6:
		return member([]int{boxOut, traitOut}[m.Intn(2)], m.singleton())
	case k == 7:
		return m.singleton()
	case k == 8:
		return variable(m.Intn(100))
	}
	return param([]int{boxT, pairA, freeU, boxV}[m.Intn(4)])
}

// types returns that many proper types.
func (m maker) types(n, depth int, binders []int) []api.Type {
	var list []api.Type
	for range n {
		list = append(list, m.proper(depth, binders))
	}
	return list
}

// proper returns a proper type of the sample that Check accepts.
func (m maker) proper(depth int, binders []int) api.Type {
	if depth <= 1 || m.sometimes(5) {
		return m.leaf(binders)
	}
	depth--
	switch m.Intn(10) {
	case 0:
		return and(m.types(2+m.Intn(3), depth, binders)...)
	case 1:
		return or(m.types(2+m.Intn(3), depth, binders)...)
	case 2:
		return m.function(depth, binders)
	case 3:
		return array(m.proper(depth, binders))
	case 4:
		return class(box, m.argument(depth, binders))
	case 5:
		return class(pair, m.argument(depth, binders), m.typeFunction(1, depth, binders))
	case 6:
		n := 1 + m.Intn(3)
		return apply(append([]api.Type{m.typeFunction(n, depth, binders)}, m.types(n, depth, binders)...)...)
	case 7:
		return m.match(depth, binders)
	case 8:
		return refine(m.proper(depth, binders), []string{"Out", "+", "_1"}[m.Intn(3)], m.proper(depth, binders), m.proper(depth, binders))
	}
	return m.leaf(binders)
}

// argument returns an argument of a class.
func (m maker) argument(depth int, binders []int) api.Type {
	if m.sometimes(3) {
		return wild(m.proper(depth, binders), m.proper(depth, binders))
	}
	return m.proper(depth, binders)
}

// typeFunction returns a type with an arity.
func (m maker) typeFunction(arity, depth int, binders []int) api.Type {
	switch {
	case arity == 1 && m.sometimes(3):
		return param(pairF)
	case arity == 2 && m.sometimes(3):
		return member(mainFun, m.singleton())
	case arity == 2 && m.sometimes(3):
		return param(freeG)
	}
	return lambda(arity, m.proper(depth, append([]int{arity}, binders...)))
}

func (m maker) function(depth int, binders []int) api.Type {
	args := m.types(1+m.Intn(4), depth, binders)
	last := len(args) - 1
	for i := range last {
		if m.sometimes(5) {
			args[i] = byName(args[i])
		}
	}
	if last > 0 && m.sometimes(5) {
		args[last-1] = repeat(m.proper(depth, binders))
	}
	return fun(args...)
}

func (m maker) match(depth int, binders []int) api.Type {
	n := m.Intn(3)
	t := match(n, m.proper(depth, binders))
	for range 1 + m.Intn(2) {
		t.Args = append(t.Args, m.types(2, depth, append([]int{n}, binders...))...)
	}
	return t
}

// junk returns anything that a type can be, often almost right.
func (m maker) junk(depth int) api.Type {
	t := api.Type{Kind: m.Intn(api.TKinds + 1)}
	if m.sometimes(3) {
		t.Sym = m.Intn(5) - 1
	}
	if m.sometimes(3) {
		t.Num = m.Intn(4) - 1
	}
	if m.sometimes(8) {
		t.Name = []string{"Out", "a b", "+"}[m.Intn(3)]
	}
	for depth > 1 && !m.sometimes(3) {
		t.Args = append(t.Args, m.junk(depth-1))
	}
	return t
}

// spoiled returns a copy of a type in which one field of one node is another one.
func (m maker) spoiled(t api.Type) api.Type {
	t = cloned(t)
	at := &t
	for len(at.Args) > 0 && !m.sometimes(4) {
		at = &at.Args[m.Intn(len(at.Args))]
	}
	switch m.Intn(7) {
	case 0:
		at.Kind = m.Intn(api.TKinds + 1)
	case 1:
		at.Sym = m.Intn(11) - 1
	case 2:
		at.Num = m.Intn(5) - 1
	case 3:
		at.Name = []string{"", "Out", "a b", "+"}[m.Intn(4)]
	case 4:
		at.Args = append(at.Args, m.leaf(nil))
	case 5:
		at.Args = at.Args[:len(at.Args)*m.Intn(3)/3]
	case 6:
		*at = m.junk(2)
	}
	return t
}

// cloned returns a copy of a type that shares no memory with it.
func cloned(t api.Type) api.Type {
	args := t.Args
	t.Args = nil
	for _, a := range args {
		t.Args = append(t.Args, cloned(a))
	}
	return t
}

func digitsOf(n int) string {
	if n < 0 {
		return "-" + digitsOf(-n)
	}
	if n < 10 {
		return string(rune('0' + n))
	}
	return digitsOf(n/10) + digitsOf(n%10)
}

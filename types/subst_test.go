package types

import (
	"slices"
	"strconv"
	"testing"

	"newel/api"
)

// P7.2: Subst, Open and OpenCase.

func TestSubst(t *testing.T) {
	p, q := param(boxT), param(freeU)
	for _, c := range []struct {
		t      api.Type
		params []int
		args   []api.Type
		want   api.Type
	}{
		{p, nil, nil, p},
		{p, []int{boxT}, []api.Type{intT}, intT},
		{p, []int{freeU}, []api.Type{intT}, p},
		{fun(p, q), []int{freeU, boxT}, []api.Type{intT, stringT}, fun(stringT, intT)},
		{fun(p, q), []int{boxT, freeU}, []api.Type{q, p}, fun(q, p)},
		{array(p), []int{boxT}, []api.Type{array(p)}, array(array(p))},
		{symbol(api.TClass, boxT), []int{boxT}, []api.Type{intT}, symbol(api.TClass, boxT)},
		{fun(this(boxT), local(boxT), class(boxT)), []int{boxT}, []api.Type{intT}, fun(this(boxT), local(boxT), class(boxT))},
		{array(bound(0, 0)), []int{0}, []api.Type{intT}, array(bound(0, 0))},
		{match(1, p, array(p), fun(p, bound(0, 0))), []int{boxT}, []api.Type{intT}, match(1, intT, array(intT), fun(intT, bound(0, 0)))},
		{refine(p, "Out", p, p), []int{boxT}, []api.Type{intT}, refine(intT, "Out", intT, intT)},
		{member(boxOut, local(0)), []int{boxT}, []api.Type{intT}, member(boxOut, local(0))},
		{param(-5), []int{-5}, []api.Type{intT}, intT},
		// A TBound that is free in an argument keeps its binder.
		{lambda(1, p), []int{boxT}, []api.Type{bound(2, 3)}, lambda(1, bound(2, 4))},
		{fun(p, lambda(1, p), match(0, p, p, p), lambda(1, match(1, p, p, p))), []int{boxT}, []api.Type{bound(0, 0)}, fun(bound(0, 0), lambda(1, bound(0, 1)), match(0, bound(0, 0), bound(0, 1), bound(0, 1)), lambda(1, match(1, bound(0, 1), bound(0, 2), bound(0, 2))))},
		{lambda(1, p), []int{boxT}, []api.Type{lambda(1, fun(bound(0, 0), bound(0, 1), lambda(1, fun(bound(0, 1), bound(0, 2)))))}, lambda(1, lambda(1, fun(bound(0, 0), bound(0, 2), lambda(1, fun(bound(0, 1), bound(0, 3))))))},
		{lambda(1, p), []int{boxT}, []api.Type{match(1, bound(0, 0), bound(0, 0), bound(0, 1))}, lambda(1, match(1, bound(0, 1), bound(0, 0), bound(0, 2)))},
		{lambda(1, fun(bound(0, 0), bound(0, 1))), []int{boxT}, []api.Type{intT}, lambda(1, fun(bound(0, 0), bound(0, 1)))},
		// Raw types.
		{withArgs(p, p), []int{boxT}, []api.Type{intT}, intT},
		{api.Type{Kind: 77, Sym: 1, Num: 2, Name: "n", Args: []api.Type{p, {}}}, []int{boxT}, []api.Type{intT}, api.Type{Kind: 77, Sym: 1, Num: 2, Name: "n", Args: []api.Type{intT, {}}}},
	} {
		got, e := Subst(c.t, c.params, c.args)
		if e != api.OK || !same(got, c.want) {
			t.Errorf("Subst(%s, %v) = %s, %v; want %s", words(c.t), c.params, words(got), e, words(c.want))
		}
	}
}

func TestSubstErrors(t *testing.T) {
	large, deep := wide(MaxSize+1), nested(api.MaxNest, intT)
	for _, c := range []struct {
		t      api.Type
		params []int
		args   []api.Type
		want   api.Errno
	}{
		{intT, []int{1}, nil, api.ErrArity},
		{intT, nil, []api.Type{intT}, api.ErrArity},
		{intT, []int{1, 1}, []api.Type{intT}, api.ErrArity},
		{intT, []int{1, 1}, []api.Type{intT, intT}, api.ErrTwice},
		{intT, []int{1, 2, 3, 1}, []api.Type{intT, intT, intT, intT}, api.ErrTwice},
		{large, []int{1, 1}, []api.Type{deep}, api.ErrLimit},
		{deep, []int{1, 1}, []api.Type{large}, api.ErrDepth},
		{intT, []int{1, 1}, []api.Type{large}, api.ErrLimit},
		{intT, []int{1, 1}, []api.Type{intT, deep, large}, api.ErrDepth},
		{intT, []int{1, 1}, []api.Type{large, deep}, api.ErrLimit},
		{intT, []int{1, 1}, []api.Type{deep, large}, api.ErrDepth},
		{fun(large, deep), nil, nil, api.ErrLimit},
		{intT, []int{1, 2}, []api.Type{intT, deep}, api.ErrDepth},
		{intT, []int{1}, []api.Type{endless()}, api.ErrLimit},
		{endless(), nil, nil, api.ErrLimit},
		// The result exceeds the limits.
		{fun(param(1), param(1)), []int{1}, []api.Type{wide(1000)}, api.ErrLimit},
		{fun(param(1), param(1), intT), []int{1}, []api.Type{wide(999)}, api.OK},
		{fun(param(1), param(1), intT), []int{1}, []api.Type{nested(998, intT)}, api.ErrDepth},
		{fun(append(times(1000, param(1)), nested(40, param(2)))...), []int{1, 2}, []api.Type{intT, nested(40, intT)}, api.ErrDepth},
		{fun(append(times(1000, param(1)), nested(40, param(2)))...), []int{1, 2}, []api.Type{array(intT), nested(40, intT)}, api.ErrLimit},
		{nested(40, param(1)), []int{1}, []api.Type{nested(23, intT)}, api.OK},
		{nested(40, param(1)), []int{1}, []api.Type{nested(24, intT)}, api.ErrDepth},
		{fun(times(1900, param(1))...), []int{1}, []api.Type{wide(1900)}, api.ErrLimit},
		{nested(40, param(1)), []int{1, 1}, []api.Type{nested(24, intT), intT}, api.ErrTwice},
	} {
		got, e := Subst(c.t, c.params, c.args)
		if e != c.want || e != api.OK && !same(got, api.Type{}) {
			t.Errorf("Subst(%.80s, %v) = %.80s, %v; want %v", words(nestedHead(c.t)), c.params, words(got), e, c.want)
		}
	}
}

// TestSubstStops checks that no more is made of a result than is needed to see that it is too large.
func TestSubstStops(t *testing.T) {
	a, arg := fun(times(1900, param(1))...), wide(1900)
	count := testing.AllocsPerRun(1, func() {
		if _, e := Subst(a, []int{1}, []api.Type{arg}); e != api.ErrLimit {
			t.Errorf("Subst to 3610001 nodes = %v; want ErrLimit", e)
		}
	})
	if count > 50000 {
		t.Errorf("Subst to 3610001 nodes takes memory %v times", count)
	}
}

func TestOpen(t *testing.T) {
	for _, c := range []struct {
		t    api.Type
		args []api.Type
		want api.Type
		e    api.Errno
	}{
		{lambda(1, array(bound(0, 0))), []api.Type{intT}, array(intT), 0},
		{lambda(1, intT), []api.Type{stringT}, intT, 0},
		{lambda(2, fun(bound(1, 0), bound(0, 0))), []api.Type{intT, stringT}, fun(stringT, intT), 0},
		{lambda(1, fun(bound(0, 0), bound(0, 1), bound(3, 5))), []api.Type{intT}, fun(intT, bound(0, 0), bound(3, 4)), 0},
		{lambda(1, lambda(2, fun(bound(0, 0), bound(0, 1), bound(0, 2)))), []api.Type{intT}, lambda(2, fun(bound(0, 0), intT, bound(0, 1))), 0},
		{lambda(1, fun(bound(0, 0), lambda(1, bound(0, 1)), match(0, bound(0, 0), bound(0, 1), bound(0, 1)))), []api.Type{bound(7, 0)}, fun(bound(7, 0), lambda(1, bound(7, 1)), match(0, bound(7, 0), bound(7, 1), bound(7, 1))), 0},
		{lambda(1, lambda(1, bound(0, 1))), []api.Type{lambda(1, fun(bound(0, 0), bound(0, 1)))}, lambda(1, lambda(1, fun(bound(0, 0), bound(0, 2)))), 0},
		{lambda(1, param(0)), []api.Type{intT}, param(0), 0},
		{lambda(0, bound(0, 1)), nil, bound(0, 0), 0},
		{intT, nil, api.Type{}, api.ErrKind},
		{match(1, intT, bound(0, 0), intT), []api.Type{intT}, api.Type{}, api.ErrKind},
		{param(pairF), []api.Type{intT}, api.Type{}, api.ErrKind},
		{withArgs(lambda(1, intT)), []api.Type{intT}, api.Type{}, api.ErrKind},
		{withArgs(lambda(1, intT), intT, intT), nil, api.Type{}, api.ErrKind},
		{lambda(1, intT), nil, api.Type{}, api.ErrArity},
		{lambda(1, intT), []api.Type{intT, intT}, api.Type{}, api.ErrArity},
		{lambda(-1, intT), nil, api.Type{}, api.ErrArity},
		{wide(MaxSize + 1), []api.Type{nested(api.MaxNest, intT)}, api.Type{}, api.ErrLimit},
		{nested(api.MaxNest, intT), []api.Type{wide(MaxSize + 1)}, api.Type{}, api.ErrDepth},
		{intT, []api.Type{intT, nested(api.MaxNest, intT)}, api.Type{}, api.ErrDepth},
		{lambda(3, intT), []api.Type{wide(MaxSize + 1)}, api.Type{}, api.ErrLimit},
		{lambda(1, fun(bound(0, 0), bound(0, 0))), []api.Type{wide(1000)}, api.Type{}, api.ErrLimit},
		{lambda(1, nested(40, bound(0, 0))), []api.Type{nested(24, intT)}, api.Type{}, api.ErrDepth},
		{lambda(1, nested(40, bound(0, 0))), []api.Type{nested(23, intT)}, nested(63, intT), 0},
		{lambda(1, nested(62, bound(0, 0))), []api.Type{array(intT)}, nested(63, intT), 0},
	} {
		got, e := Open(c.t, c.args)
		if e != c.e || !same(got, c.want) {
			t.Errorf("Open(%.200s) = %.200s, %v; want %.200s, %v", words(nestedHead(c.t)), words(got), e, words(c.want), c.e)
		}
	}
	if got, e := Open(lambda(1, fun(bound(0, 0), bound(0, 0))), []api.Type{wide(999)}); e != api.OK || Size(got) != 1999 {
		t.Errorf("Open to 1999 nodes: %v", e)
	}
}

func TestOpenCase(t *testing.T) {
	m := match(2, bound(0, 0), array(bound(1, 0)), fun(bound(0, 0), bound(0, 1)), intT, lambda(1, fun(bound(1, 1), bound(0, 2))))
	two := []api.Type{stringT, bound(5, 0)}
	large, deep := wide(MaxSize+1), nested(api.MaxNest, intT)
	for _, c := range []struct {
		t             api.Type
		k             int
		args          []api.Type
		pattern, body api.Type
		e             api.Errno
	}{
		{m, 0, two, array(bound(5, 0)), fun(stringT, bound(0, 0)), 0},
		{m, 1, two, intT, lambda(1, fun(bound(5, 1), bound(0, 1))), 0},
		{match(0, intT, bound(0, 1), bound(1, 3)), 0, nil, bound(0, 0), bound(1, 2), 0},
		{m, 2, two, api.Type{}, api.Type{}, api.ErrRange},
		{m, -1, two, api.Type{}, api.Type{}, api.ErrRange},
		{m, 1 << 62, nil, api.Type{}, api.Type{}, api.ErrRange},
		{m, -1 << 63, nil, api.Type{}, api.Type{}, api.ErrRange},
		{m, 0, nil, api.Type{}, api.Type{}, api.ErrArity},
		{m, 1, append(two, intT), api.Type{}, api.Type{}, api.ErrArity},
		{match(0, intT), 0, nil, api.Type{}, api.Type{}, api.ErrRange},
		{match(0), 0, nil, api.Type{}, api.Type{}, api.ErrRange},
		{match(0, intT, intT), 0, nil, api.Type{}, api.Type{}, api.ErrRange},
		{match(0, intT, intT, stringT, intT), 0, nil, intT, stringT, 0},
		{match(0, intT, intT, stringT, intT), 1, nil, api.Type{}, api.Type{}, api.ErrRange},
		{lambda(1, intT), 5, nil, api.Type{}, api.Type{}, api.ErrKind},
		{intT, 0, nil, api.Type{}, api.Type{}, api.ErrKind},
		{large, 0, []api.Type{deep}, api.Type{}, api.Type{}, api.ErrLimit},
		{deep, 0, []api.Type{large}, api.Type{}, api.Type{}, api.ErrDepth},
		{intT, 0, []api.Type{intT, deep, large}, api.Type{}, api.Type{}, api.ErrDepth},
		{match(1, intT, fun(bound(0, 0), bound(0, 0)), intT), 0, []api.Type{wide(1000)}, api.Type{}, api.Type{}, api.ErrLimit},
		{match(1, intT, intT, fun(bound(0, 0), bound(0, 0))), 0, []api.Type{wide(1000)}, api.Type{}, api.Type{}, api.ErrLimit},
		{match(2, intT, nested(40, bound(0, 0)), fun(bound(1, 0), bound(1, 0))), 0, []api.Type{nested(40, intT), wide(1000)}, api.Type{}, api.Type{}, api.ErrDepth},
		{match(2, intT, fun(bound(1, 0), bound(1, 0)), nested(40, bound(0, 0))), 0, []api.Type{nested(40, intT), wide(1000)}, api.Type{}, api.Type{}, api.ErrLimit},
		{match(1, nested(40, bound(0, 0)), intT, stringT), 0, []api.Type{nested(40, intT)}, intT, stringT, 0},
	} {
		pattern, body, e := OpenCase(c.t, c.k, c.args)
		if e != c.e || !same(pattern, c.pattern) || !same(body, c.body) {
			t.Errorf("OpenCase(%.200s, %d) = %s, %s, %v; want %s, %s, %v", words(nestedHead(c.t)), c.k, words(pattern), words(body), e, words(c.pattern), words(c.body), c.e)
		}
	}
}

// named is a type whose TBounds say by a name to which binder they belong, so that parts can be moved as they are.
type named struct {
	t      api.Type // without Args
	binder string   // of a TBound: "free" and a number, if it is free
	names  []string // of the binders around the Args, "" for none
	args   []named
}

// toNamed gives names to binders: each one gets another one, by a counter.
func toNamed(t api.Type, binders []string, count *int) named {
	n := named{t: t}
	n.t.Args = nil
	if t.Kind == api.TBound {
		if t.Sym < len(binders) {
			n.binder = binders[t.Sym]
		} else {
			n.binder = "free" + strconv.Itoa(t.Sym-len(binders))
		}
	}
	for i, a := range t.Args {
		name, inside := "", binders
		if t.Kind == api.TLambda || t.Kind == api.TMatch && i > 0 {
			if name = "b" + strconv.Itoa(*count); t.Kind == api.TMatch && i%2 == 0 {
				name = n.names[i-1] // pattern and body have one binder
			}
			*count++
			inside = append([]string{name}, binders...)
		}
		n.names = append(n.names, name)
		n.args = append(n.args, toNamed(a, inside, count))
	}
	return n
}

// toType takes the names away.
func (n named) toType(binders []string) api.Type {
	t := n.t
	if t.Kind == api.TBound {
		t.Sym = slices.Index(binders, n.binder)
		if k, free := freeNumber(n.binder); free {
			t.Sym = len(binders) + k
		}
	}
	for i, a := range n.args {
		inside := binders
		if n.names[i] != "" {
			inside = append([]string{n.names[i]}, binders...)
		}
		t.Args = append(t.Args, a.toType(inside))
	}
	return t
}

func freeNumber(name string) (int, bool) {
	if len(name) < 5 || name[:4] != "free" {
		return 0, false
	}
	k, err := strconv.Atoi(name[4:])
	return k, err == nil
}

// replace puts other types in the place of parts.
func (n named) replace(by func(part named) (named, bool)) named {
	if other, ok := by(n); ok {
		return other
	}
	args := slices.Clone(n.args)
	for i, a := range args {
		args[i] = a.replace(by)
	}
	n.args = args
	return n
}

// TestSubstAtRandom compares with what becomes of types with names.
func TestSubstAtRandom(t *testing.T) {
	m := newMaker(5)
	for range 10000 {
		count := 0
		a, args := m.proper(5, []int{1, 2}), m.types(2, 4, []int{3, 1, 1})
		by := []int{boxT, freeU}
		want := toNamed(a, nil, &count).replace(func(part named) (named, bool) {
			k := slices.Index(by, part.t.Sym)
			if part.t.Kind != api.TParam || k < 0 {
				return named{}, false
			}
			return toNamed(args[k], nil, &count), true
		}).toType(nil)
		got, e := Subst(a, by, args)
		if Size(want) > MaxSize {
			if e != api.ErrLimit {
				t.Fatalf("Subst to a large type = %v; want ErrLimit", e)
			}
			continue
		}
		if e != api.OK || !same(got, want) {
			t.Fatalf("Subst(%s, .. by %s and %s) = %s, %v; want %s", words(a), words(args[0]), words(args[1]), words(got), e, words(want))
		}
	}
}

func TestOpenAtRandom(t *testing.T) {
	m := newMaker(6)
	for range 5000 {
		count := 0
		body, pattern, args := m.proper(5, []int{2, 3}), m.proper(3, []int{2, 3}), m.types(2, 4, []int{3, 1})
		opened := func(whole api.Type, index int) api.Type {
			n := toNamed(whole, nil, &count)
			name := n.names[index]
			return n.args[index].replace(func(part named) (named, bool) {
				if part.binder != name {
					return named{}, false
				}
				return toNamed(args[part.t.Num], nil, &count), true
			}).toType(nil)
		}
		got, e := Open(lambda(2, body), args)
		if want := opened(lambda(2, body), 0); e != api.OK && Size(want) <= MaxSize || e == api.OK && !same(got, want) {
			t.Fatalf("Open(%s, %s and %s) = %s, %v; want %s", words(lambda(2, body)), words(args[0]), words(args[1]), words(got), e, words(want))
		}
		whole := match(2, intT, intT, intT, pattern, body)
		p, b, e := OpenCase(whole, 1, args)
		if e != api.OK {
			continue
		}
		if q, c := opened(whole, 3), opened(whole, 4); !same(p, q) || !same(b, c) {
			t.Fatalf("OpenCase(%s, 1, %s and %s) = %s, %s; want %s, %s", words(whole), words(args[0]), words(args[1]), words(p), words(b), words(q), words(c))
		}
	}
}

// TestSubstProperties has the properties of P7.5: Subst with the parameters themselves changes nothing, nor does opening a TLambda whose variables are not used.
func TestSubstProperties(t *testing.T) {
	m := newMaker(7)
	all := []int{boxT, pairA, pairF, freeU, freeG, boxV}
	var selves []api.Type
	for _, i := range all {
		selves = append(selves, param(i))
	}
	for range 3000 {
		a := m.proper(6, nil)
		if Size(a) > MaxSize-1 {
			continue
		}
		if got, e := Subst(a, all, selves); e != api.OK || !same(got, a) {
			t.Fatalf("Subst(%s, itself) = %s, %v", words(a), words(got), e)
		}
		if got, e := Open(lambda(2, a), times(2, stringT)); e != api.OK || !same(got, a) {
			t.Fatalf("Open of a TLambda with the body %s = %s, %v", words(a), words(got), e)
		}
	}
}

package desugar

import (
	"reflect"
	"slices"
	"strings"
	"testing"

	"newel/api"
	"newel/syntax"
)

// P5.4: properties, of trees at random.

// hasAbbreviation reports, from the list of the chapter, whether a right tree is no core tree.
func hasAbbreviation(n syntax.Node) bool {
	if n.Kind == syntax.PLiteral {
		return false
	}
	found := strings.Contains(" SExtension SEnumCase XInfix XPrefix XInterp XFor SGenerator SBinding SGuard ", " "+syntax.Name(n.Kind)+" ")
	last := syntax.Node{}
	if len(n.Kids) > 0 {
		last = n.Kids[len(n.Kids)-1]
	}
	switch n.Kind {
	case syntax.SClass:
		found = n.Num == 5
	case syntax.XAssign:
		found = n.Text != "=" || n.Kids[0].Kind != syntax.XName && n.Kids[0].Kind != syntax.XSelect
	case syntax.XIf, syntax.XReturn:
		found = last.Kind == syntax.SNone
	case syntax.SLambdaParam:
		found = n.Text == "_"
	case syntax.SLists:
		found = !slices.IsSortedFunc(n.Kids, func(a, b syntax.Node) int { return int(a.Num - b.Num) })
	case syntax.XBlock:
		found = class(last) != "X" || hasWrongStatement(n.Kids)
	}
	return found || slices.ContainsFunc(n.Kids, hasAbbreviation)
}

func hasWrongStatement(l []syntax.Node) bool {
	return slices.ContainsFunc(l, func(s syntax.Node) bool {
		isValue := s.Kind == syntax.SVal && s.Kids[2].Kind != syntax.SNone
		return class(s) == "definition" && s.Kind != syntax.SImport && !isValue
	})
}

// mayFail reports whether a node somewhere in a tree may be a fault.
func mayFail(n syntax.Node) bool {
	for m := range nodes(n) {
		fails := false
		switch m.Kind {
		case syntax.XInterp:
			fails = m.Text != "s"
		case syntax.XBlock:
			fails = hasWrongStatement(m.Kids)
		case syntax.XAssign:
			kind := m.Kids[0].Kind
			// Behind an argument with a name there is no place for the value.
			fails = kind != syntax.XName && kind != syntax.XSelect && kind != syntax.XApply || size(m.Kids[0]) > 40 || syntax.Count(m, syntax.XNamed) > 0
		case syntax.SClass:
			fails = m.Num == 5
		case syntax.SEnumCase, syntax.SExtension, syntax.XFor:
			fails = true
		case syntax.SLists:
			fails = !slices.IsSortedFunc(m.Kids, func(a, b syntax.Node) int { return int(a.Num - b.Num) })
		}
		if fails {
			return true
		}
	}
	return syntax.Depth(n) > 20
}

// texts returns the Texts of a tree.
func texts(n syntax.Node) map[string]bool {
	out := map[string]bool{}
	for m := range nodes(n) {
		out[m.Text] = true
	}
	return out
}

// checkResult checks what a function that replaces made of a tree.
func checkResult(t *testing.T, name string, replace func(syntax.Node) (syntax.Node, api.Fault), n syntax.Node) (isFault, isCore bool) {
	t.Helper()
	core, f := replace(n)
	if Core(n) == hasAbbreviation(n) {
		t.Errorf("Core(%s) = %v", written(n), Core(n))
	}
	if again, g := replace(n); g != f || !reflect.DeepEqual(again, core) {
		t.Errorf("%s(%s) has several results", name, written(n))
	}
	if f.Code != api.OK {
		if Core(n) || !reflect.DeepEqual(core, syntax.Node{}) || !mayFail(n) {
			t.Errorf("%s(%s) = %s, %v", name, written(n), written(core), f)
		}
		return true, false
	}
	if !isRight(core) || hasAbbreviation(core) || !Core(core) {
		t.Errorf("%s(%s) is no core tree: %s", name, written(n), written(core))
	}
	if again, g := replace(core); g.Code != api.OK || !reflect.DeepEqual(again, core) {
		t.Errorf("%s of a core tree %s = %v, %s", name, written(core), g, written(again))
	}
	if Core(n) != (syntax.Equal(n, core) && places(n) == places(core)) {
		t.Errorf("%s(%s) = %s, but it is %v that it was a core tree", name, written(n), written(core), Core(n))
	}
	checkFresh(t, n, core)
	return false, Core(n)
}

// checkFresh checks that the names that occur only in the core tree are the first fresh ones, and those that the chapter itself names.
func checkFresh(t *testing.T, n, core syntax.Node) {
	t.Helper()
	before, behind := texts(n), texts(core)
	fresh, _ := Fresh(n, 100)
	count := 0
	for _, name := range fresh {
		if before[name] {
			t.Errorf("the fresh name %s occurs in %s", name, written(n))
		}
		if behind[name] {
			count++
		}
	}
	for i, name := range fresh {
		if behind[name] != (i < count) {
			t.Errorf("of the fresh names in %s, %s is %v", written(core), name, behind[name])
		}
	}
	for text := range behind {
		known := slices.Contains([]string{"", "map", "flatMap", "foreach", "withFilter", "update", "Any", "Nothing"}, text) || slices.Contains(fresh, text)
		for old := range before {
			known = known || text == old || old == text+"="
		}
		if !known && !slices.Contains([]string{"+", "==", "!", "="}, text) {
			t.Errorf("%q occurs in the core tree of %s", text, written(n))
		}
	}
}

// checkMany checks what a function that replaces makes of trees at random, until one is wrong, and counts those with faults and the core trees.
func checkMany(t *testing.T, name string, replace func(syntax.Node) (syntax.Node, api.Fault), count int, tree func() syntax.Node) (faults, cores int) {
	t.Helper()
	for i := 0; i < count && !t.Failed(); i++ {
		isFault, isCore := checkResult(t, name, replace, tree())
		if isFault {
			faults++
		}
		if isCore {
			cores++
		}
	}
	return faults, cores
}

func TestUnitsAtRandom(t *testing.T) {
	const count = 4000
	if faults, _ := checkMany(t, "Unit", Unit, count, newPool(t, 4).unit); faults < count/40 || faults > count/2 {
		t.Errorf("%d of %d units have faults", faults, count)
	}
}

func TestExprsAtRandom(t *testing.T) {
	const count = 12000
	if faults, cores := checkMany(t, "Expr", Expr, count, newPool(t, 5).expr); faults < count/50 || cores < count/10 {
		t.Errorf("%d of %d expressions have faults, %d are core trees", faults, count, cores)
	}
}

// Trees of the parts of core trees: most of them are core trees, and the others nearly so.
func TestCoreTreesAtRandom(t *testing.T) {
	p := newPool(t, 6)
	few := &pool{r: p.r, parts: map[string][]syntax.Node{}}
	for _, n := range p.units {
		core, f := Unit(n)
		if f.Code != api.OK {
			t.Fatalf("Unit(%s): %v", written(n), f)
		}
		few.add(core)
	}
	const count = 3000
	if _, cores := checkMany(t, "Unit", Unit, count, few.unit); cores < count/3 {
		t.Errorf("%d of %d units are core trees", cores, count)
	}
}

// The fault of a tree that is not right is that of syntax.Check, whose index is the At of the node here.
func TestWrongTreesAtRandom(t *testing.T) {
	p := newPool(t, 9)
	wrong := 0
	for range 6000 {
		n := p.units[p.r.Intn(len(p.units))]
		for range 3 {
			n = p.changed(n)
		}
		n = counted(n)
		want := syntax.Check(n)
		if want.Code == api.OK {
			continue
		}
		wrong++
		core, f := Unit(n)
		_, g := Expr(n)
		if f != want || g != want || !reflect.DeepEqual(core, syntax.Node{}) || Core(n) || Bound(n) != nil {
			t.Fatalf("Unit of a wrong tree = %v, %v; want %v", f, g, want)
		}
	}
	if wrong < 500 {
		t.Errorf("only %d trees are wrong", wrong)
	}
}

// A for expression with one generator and a variable is a call of map or foreach.
func TestOneGenerator(t *testing.T) {
	p := newPool(t, 7)
	for i := range 2000 {
		source, body := p.expr(), p.expr()
		pattern, param := form(t, `(PBind "x" $w)`), form(t, `(SLambdaParam "x" $-)`)
		if i%4 < 2 {
			pattern, param = form(t, `(PTyped "x" $t)`), form(t, `(SLambdaParam "x" $t)`)
		}
		loop := node(syntax.XFor, "", node(syntax.SGenerator, "", pattern, source), body)
		loop.Num = int64(i % 2)
		name := [...]string{"foreach", "map"}[i%2]
		call := node(syntax.XApply, "", node(syntax.XSelect, name, source), node(syntax.XLambda, "", param, body))
		if !isRight(loop) || !isRight(call) {
			continue
		}
		a, f := Expr(loop)
		b, g := Expr(call)
		if f.Code != g.Code || f.Code == api.OK && !syntax.Equal(a, b) {
			t.Fatalf("Expr(%s) = %s, %v\nExpr(%s) = %s, %v", written(loop), written(a), f, written(call), written(b), g)
		}
	}
}

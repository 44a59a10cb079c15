package desugar

import (
	"newel/api"
	"newel/syntax"
)

// replacer replaces the abbreviations of one tree.
type replacer struct {
	fresh func() string // the fresh name that is next
}

// A rule makes what stands in the place of a node, whose kids are not yet replaced. No rule applies to that itself once more.
type rule = func(*replacer, syntax.Node) syntax.Node

// A spread is a rule that may make several nodes.
type spread = func(*replacer, syntax.Node) []syntax.Node

func rules() map[int]rule {
	return map[int]rule{
		syntax.SLists:       (*replacer).lists,
		syntax.SLambdaParam: (*replacer).lambdaParam,
		syntax.XInfix:       (*replacer).infix,
		syntax.XPrefix:      (*replacer).prefix,
		syntax.XAssign:      (*replacer).assign,
		syntax.XInterp:      (*replacer).interpolated,
		syntax.XFor:         (*replacer).loop,
		syntax.XIf:          (*replacer).conditional,
		syntax.XReturn:      (*replacer).result,
		syntax.XBlock:       (*replacer).block,
	}
}

func spreads() map[int]spread {
	return map[int]spread{
		syntax.SExtension: (*replacer).extension,
		syntax.SClass:     (*replacer).class,
		syntax.SEnumCase:  (*replacer).enumCase,
	}
}

// walker returns a function that replaces a node and then its kids, in new memory. It counts the nodes, as rules take kids twice: few nodes may stand for more than can be made.
func (r *replacer) walker() func(syntax.Node) syntax.Node {
	rules, spreads := rules(), spreads()
	count := 0
	var walk func(syntax.Node) syntax.Node
	walk = func(n syntax.Node) syntax.Node {
		count++
		if count > api.MaxNodes {
			fail(0, api.ErrLimit)
		}
		if n.Kind == syntax.PLiteral {
			return copied(n)
		}
		if replace, ok := rules[n.Kind]; ok {
			n = replace(r, n)
		}
		var kids []syntax.Node
		for _, k := range n.Kids {
			made := []syntax.Node{k}
			if replace, ok := spreads[k.Kind]; ok {
				made = replace(r, k)
			}
			for _, m := range made {
				kids = append(kids, walk(m))
			}
		}
		n.Kids = kids
		return n
	}
	return walk
}

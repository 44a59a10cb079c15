package desugar

import (
	"iter"
	"strconv"
	"strings"

	"newel/api"
	"newel/syntax"
)

// Places of the kids of an SClass. The first three are those of an SDef, too.
const (
	modsKid = iota
	namesKid
	listsKid
	parentsKid
	bodyKid
)

// Nums of an SClass.
const (
	plainClass = 0
	caseClass  = 3
	caseObject = 4
	enumClass  = 5
)

func isRight(n syntax.Node) bool {
	return syntax.Check(n).Code == api.OK
}

func isNone(n syntax.Node) bool {
	return n.Kind == syntax.SNone
}

func isUnit(n syntax.Node) bool {
	return n.Kind == syntax.SUnit
}

// isExpression reports whether a node is an expression. An XNamed is an argument.
func isExpression(n syntax.Node) bool {
	return n.Kind != syntax.XNamed && strings.HasPrefix(syntax.Name(n.Kind), "X")
}

func isPattern(n syntax.Node) bool {
	return strings.HasPrefix(syntax.Name(n.Kind), "P")
}

// nodes returns the nodes of a tree in preorder.
func nodes(n syntax.Node) iter.Seq[syntax.Node] {
	return func(yield func(syntax.Node) bool) {
		var visit func(syntax.Node) bool
		visit = func(n syntax.Node) bool {
			goesOn := yield(n)
			for i := 0; goesOn && i < len(n.Kids); i++ {
				goesOn = visit(n.Kids[i])
			}
			return goesOn
		}
		visit(n)
	}
}

// offset returns the At of the node with an index in preorder.
func offset(n syntax.Node, index int) int {
	at := 0
	for m := range nodes(n) {
		at = m.At
		if index == 0 {
			break
		}
		index--
	}
	return at
}

// copied returns a tree in new memory.
func copied(n syntax.Node) syntax.Node {
	var kids []syntax.Node
	for _, k := range n.Kids {
		kids = append(kids, copied(k))
	}
	n.Kids = kids
	return n
}

// freshNames returns a function that returns names which no node of a tree has as its Text, another one each time.
func freshNames(n syntax.Node) func() string {
	taken := takenNames(n)
	number := 0
	return func() string {
		for {
			number++
			if name := "_" + strconv.Itoa(number); !taken[name] {
				return name
			}
		}
	}
}

// takenNames returns the Texts of a tree that may be fresh names elsewhere. The tree need not be right: each node in memory is looked at once, as few of them may have the same kids in many places, or without an end.
func takenNames(n syntax.Node) map[string]bool {
	taken := map[string]bool{}
	seen := map[*syntax.Node]bool{}
	todo := [][]syntax.Node{{n}}
	for len(todo) > 0 {
		list := todo[len(todo)-1]
		todo = todo[:len(todo)-1]
		for i := range list {
			m := &list[i]
			if seen[m] {
				continue
			}
			seen[m] = true
			if strings.HasPrefix(m.Text, "_") && len(m.Text) <= api.MaxName {
				taken[m.Text] = true
			}
			todo = append(todo, m.Kids)
		}
	}
	return taken
}

// maker makes nodes with an At.
type maker struct{ at int }

func (m maker) node(kind int, text string, kids ...syntax.Node) syntax.Node {
	return syntax.Node{Kind: kind, Text: text, Kids: kids, At: m.at}
}

func (m maker) none() syntax.Node {
	return m.node(syntax.SNone, "")
}

func (m maker) unit() syntax.Node {
	return m.node(syntax.XUnit, "")
}

// call makes e.name(args).
func (m maker) call(e syntax.Node, name string, args ...syntax.Node) syntax.Node {
	kids := []syntax.Node{m.node(syntax.XSelect, name, e)}
	return m.node(syntax.XApply, "", append(kids, args...)...)
}

// match makes an XMatch of e with one case.
func (m maker) match(e, pattern, value syntax.Node) syntax.Node {
	return m.node(syntax.XMatch, "", e, m.node(syntax.SCase, "", pattern, m.none(), value))
}

package types

import (
	"cmp"
	"strings"

	"newel/api"
)

// Compare compares two types: it returns -1, 0 or 1.
func Compare(a, b api.Type) int {
	c := &comparer{}
	return c.compare(a, b, api.MaxNest)
}

// Equal reports whether two types are equal.
func Equal(a, b api.Type) bool {
	return Compare(a, b) == 0
}

// places is where two lists lie in memory, and how many levels of them are compared.
type places struct {
	a, b   place
	levels int
}

// comparer compares types. It remembers which lists are equal, when there are so many nodes that they must be shared: see argsOf.
type comparer struct {
	steps int
	equal map[places]bool
}

// compare compares some levels of two types.
func (c *comparer) compare(a, b api.Type, levels int) int {
	c.steps++
	order := compareHeads(a, b)
	if order != 0 || len(a.Args) == 0 || levels == 1 {
		return order
	}
	at := places{placeOf(a.Args), placeOf(b.Args), levels}
	if at.a == at.b || c.equal[at] {
		return 0
	}
	for i := range a.Args {
		if order := c.compare(a.Args[i], b.Args[i], levels-1); order != 0 {
			return order
		}
	}
	c.remember(at)
	return 0
}

// remember keeps in mind that lists are equal.
func (c *comparer) remember(at places) {
	if c.steps <= MaxSize {
		return
	}
	if c.equal == nil {
		c.equal = map[places]bool{}
	}
	c.equal[at] = true
}

// compareHeads compares all but what the Args are.
func compareHeads(a, b api.Type) int {
	return cmp.Or(
		cmp.Compare(a.Kind, b.Kind),
		cmp.Compare(a.Sym, b.Sym),
		strings.Compare(a.Name, b.Name),
		cmp.Compare(a.Num, b.Num),
		cmp.Compare(len(a.Args), len(b.Args)),
	)
}

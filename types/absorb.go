package types

import (
	"slices"

	"newel/api"
)

// unabsorbed returns the types of a list, each once, that no other one of it absorbs. Rule 2 can make a thousand TAnds of a thousand Args each, so it compares sets of numbers, not types.
func unabsorbed(list []api.Type) []api.Type {
	hasParts := func(t api.Type) bool { return t.Kind == api.TAnd || t.Kind == api.TNull }
	if !slices.ContainsFunc(list, hasParts) {
		return list // one part absorbs no other one but null
	}
	n := &numberer{}
	parts := make([]set, len(list))
	for i, t := range list {
		parts[i] = n.numbers(t)
	}
	var left []api.Type
	for i, t := range list {
		stands := parts[i]
		if hasNull(t) {
			stands = stands.and(n.references)
		}
		isOther := func(j int) bool { return j != i && parts[j].isWithin(stands) }
		if !containsIndex(len(list), isOther) {
			left = append(left, t)
		}
	}
	return left
}

// containsIndex reports whether something is so of one of the first indices.
func containsIndex(count int, isSo func(i int) bool) bool {
	for i := range count {
		if isSo(i) {
			return true
		}
	}
	return false
}

// hasNull reports whether TNull is a part of a type.
func hasNull(t api.Type) bool {
	return slices.ContainsFunc(partsOf(t), func(part api.Type) bool { return part.Kind == api.TNull })
}

// partsOf returns the Args of a TAnd, and any other type alone.
func partsOf(t api.Type) []api.Type {
	if t.Kind == api.TAnd {
		return t.Args
	}
	return []api.Type{t}
}

// numberer gives numbers to the parts of types: equal ones have the same.
type numberer struct {
	known      []numbered // in increasing order of the types
	references set        // the numbers of those of reference groups
}

// numbered is a part with its number.
type numbered struct {
	part   api.Type
	number int
}

// numbers returns the numbers of the parts of a type.
func (n *numberer) numbers(t api.Type) set {
	var numbers set
	for _, part := range partsOf(t) {
		numbers = numbers.with(n.number(part))
	}
	return numbers
}

// number returns the number of a part.
func (n *numberer) number(part api.Type) int {
	at, isKnown := slices.BinarySearchFunc(n.known, part, func(k numbered, t api.Type) int { return Compare(k.part, t) })
	if isKnown {
		return n.known[at].number
	}
	number := len(n.known)
	n.known = slices.Insert(n.known, at, numbered{part, number})
	if isReference(part) {
		n.references = n.references.with(number)
	}
	return number
}

// set is a set of numbers, a bit each.
type set []uint64

// with returns a set with a further number. It changes the set.
func (s set) with(number int) set {
	for len(s) <= number/64 {
		s = append(s, 0)
	}
	s[number/64] |= 1 << (number % 64)
	return s
}

// and returns the numbers of two sets.
func (s set) and(other set) set {
	both := slices.Clone(s)
	for i, bits := range other {
		if i == len(both) {
			both = append(both, 0)
		}
		both[i] |= bits
	}
	return both
}

// isWithin reports whether another set has all numbers of this one.
func (s set) isWithin(other set) bool {
	for i, bits := range s {
		if i < len(other) {
			bits &^= other[i]
		}
		if bits != 0 {
			return false
		}
	}
	return true
}

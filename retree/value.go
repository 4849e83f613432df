package retree

import (
	"slices"

	"texttools/api"
	"texttools/charset"
)

// valueOf returns the value of a valid tree. rule returns the value of a node from those of its Args; a reference has the Args of the group that it refers to. Each node is visited once, since references to groups with references would otherwise make very many visits.
func valueOf[T any](e api.Re, rule func(e api.Re, parts []T) T) T {
	var groups [api.MaxGroups + 1][]T
	var value func(e api.Re) T
	value = func(e api.Re) T {
		if e.Op == api.ReBack {
			return rule(e, groups[e.Group])
		}
		parts := mapped(e.Args, value)
		if e.Op == api.ReGroup {
			groups[e.Group] = parts
		}
		return rule(e, parts)
	}
	return value(e)
}

// mapped returns the results of change for the elements of the list.
func mapped[S, T any](list []S, change func(S) T) []T {
	var results []T
	for _, element := range list {
		results = append(results, change(element))
	}
	return results
}

// Nullable reports whether the form of the tree allows the empty string.
func Nullable(e api.Re) bool {
	return Check(e) == api.OK && valueOf(e, nullable)
}

// nullable is the rule of Nullable.
func nullable(e api.Re, parts []bool) bool {
	switch e.Op {
	case api.ReSet:
		return false
	case api.ReCat:
		return !slices.Contains(parts, false)
	case api.ReAlt:
		return slices.Contains(parts, true)
	case api.ReRep:
		return e.Lo == 0 || parts[0]
	case api.ReGroup, api.ReBack:
		return parts[0]
	}
	return true
}

// lengths are the least and the greatest length of the strings that a tree can match.
type lengths struct{ least, most int }

// Length returns the least and the greatest length of the strings that the tree can match; -1 means that there is no bound.
func Length(e api.Re) (least, most int) {
	if Check(e) != api.OK {
		return 0, 0
	}
	found := valueOf(e, lengthsOf)
	return found.least, found.most
}

// lengthsOf is the rule of Length.
func lengthsOf(e api.Re, parts []lengths) lengths {
	switch e.Op {
	case api.ReSet:
		return lengths{1, 1}
	case api.ReCat:
		return combined(parts, sum, sum)
	case api.ReAlt:
		return combined(parts, lesser, greater)
	case api.ReRep:
		return lengths{product(parts[0].least, e.Lo), product(parts[0].most, e.Hi)}
	case api.ReGroup, api.ReBack:
		return parts[0]
	}
	return lengths{}
}

// combined combines the lengths of one or more parts.
func combined(parts []lengths, least, most func(a, b int) int) lengths {
	whole := parts[0]
	for _, part := range parts[1:] {
		whole = lengths{least(whole.least, part.least), most(whole.most, part.most)}
	}
	return whole
}

func sum(a, b int) int {
	switch {
	case a == unbounded || b == unbounded:
		return unbounded
	case a > maxItems-b:
		return maxItems
	}
	return a + b
}

// product returns a times b, where either can be unbounded.
func product(a, b int) int {
	switch {
	case a == 0 || b == 0:
		return 0
	case a == unbounded || b == unbounded:
		return unbounded
	case a > maxItems/b:
		return maxItems
	}
	return a * b
}

// lesser returns the lesser one of two lengths, neither of which is unbounded.
func lesser(a, b int) int {
	return min(a, b)
}

func greater(a, b int) int {
	if a == unbounded || b == unbounded {
		return unbounded
	}
	return max(a, b)
}

// A beginning is the set of the bytes with which the strings of a tree begin, and whether the empty string is one of them.
type beginning struct {
	set      api.Charset
	nullable bool
}

// First returns the set of the bytes with which the strings that the tree can match begin, and Nullable.
func First(e api.Re) (api.Charset, bool) {
	if Check(e) != api.OK {
		return api.Charset{}, false
	}
	found := valueOf(e, beginningOf)
	return found.set, found.nullable
}

// beginningOf is the rule of First.
func beginningOf(e api.Re, parts []beginning) beginning {
	canBeEmpty := func(part beginning) bool { return part.nullable }
	return beginning{firstSet(e, parts), nullable(e, mapped(parts, canBeEmpty))}
}

func firstSet(e api.Re, parts []beginning) api.Charset {
	switch {
	case e.Op == api.ReSet:
		return e.Set
	case e.Op == api.ReRep && e.Hi == 0:
		return api.Charset{}
	}
	var set api.Charset
	for _, part := range parts {
		set = charset.Union(set, part.set)
		if e.Op == api.ReCat && !part.nullable {
			break
		}
	}
	return set
}

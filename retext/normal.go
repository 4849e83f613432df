package retext

import (
	"texttools/api"
)

// A normality keeps, while it checks a tree in preorder, how many groups there are so far and which of them are closed.
type normality struct {
	groups int
	closed [api.MaxGroups + 1]bool
}

func isNormal(e api.Re) bool {
	var n normality
	return n.check(e, 1)
}

// check reports whether the node e of this level, and those below it, belong to a normal tree. It ends at the first fault, so that it ends for trees that contain themselves, too.
func (n *normality) check(e api.Re, level int) bool {
	if level > api.MaxDepth || !hasItsFields(e) || !n.hasItsGroup(e) {
		return false
	}
	for _, part := range e.Args {
		if !canContain(e.Op, part.Op) || !n.check(part, level+1) {
			return false
		}
	}
	if e.Op == api.ReGroup {
		n.closed[e.Group] = true
	}
	return true
}

// hasItsFields reports whether e has the fields of its operator, and no others.
func hasItsFields(e api.Re) bool {
	hasSet := e.Set != api.Charset{}
	hasGroup := e.Op == api.ReGroup || e.Op == api.ReBack || e.Group == 0
	hasBounds := e.Lo == 0 && e.Hi == 0
	if e.Op == api.ReRep {
		hasBounds = 0 <= e.Lo && e.Lo <= api.MaxRepeat && (e.Hi == unbounded || e.Lo <= e.Hi && e.Hi <= api.MaxRepeat)
	}
	return hasSet == (e.Op == api.ReSet) && hasGroup && hasBounds && canHave(e.Op, len(e.Args))
}

// canHave reports whether a node with this operator can have so many Args.
func canHave(op, count int) bool {
	switch op {
	case api.ReEmpty, api.ReSet, api.ReBegin, api.ReEnd, api.ReBack:
		return count == 0
	case api.ReRep, api.ReGroup:
		return count == 1
	case api.ReCat, api.ReAlt:
		return count >= 2
	}
	return false
}

// canContain reports whether a node with the operator op can have an Arg with the operator part.
func canContain(op, part int) bool {
	switch op {
	case api.ReCat:
		return part != api.ReCat && part != api.ReAlt && part != api.ReEmpty
	case api.ReAlt:
		return part != api.ReAlt && part != api.ReEmpty
	case api.ReRep:
		return part == api.ReSet || part == api.ReGroup || part == api.ReBack
	}
	return true
}

// hasItsGroup reports whether e opens the next group or refers to one that is closed, if it is about a group.
func (n *normality) hasItsGroup(e api.Re) bool {
	switch e.Op {
	case api.ReGroup:
		n.groups++
		return e.Group == n.groups && e.Group <= api.MaxGroups
	case api.ReBack:
		return 1 <= e.Group && e.Group <= api.MaxGroups && n.closed[e.Group]
	}
	return true
}

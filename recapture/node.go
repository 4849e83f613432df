package recapture

import (
	"texttools/api"
)

// unbounded is the Hi of a repetition without bound.
const unbounded = -1

// A node is a node of the tree with its code in the program: the instructions from the number first up to, but not including, the number next, at which each way through the code ends.
type node struct {
	api.Re
	first, next int
	// parts are the nodes of the Args. Those of a ReRep are all copies of its Arg in the code: the part number k is the repetition after k others, and the last part is, without a bound, also each later one.
	parts []*node
	// captures says whether the code contains that of a group.
	captures bool
}

// nodeOf returns the nodes of a tree that has a program.
func nodeOf(e api.Re) *node {
	var l layout
	return l.node(e)
}

// A layout counts instructions in the order in which reprog.Compile writes them.
type layout struct{ next int }

func (l *layout) node(e api.Re) *node {
	x := &node{Re: e, first: l.next, captures: e.Op == api.ReGroup}
	switch e.Op {
	case api.ReSet, api.ReBegin, api.ReEnd:
		l.next++
	case api.ReCat, api.ReGroup:
		for _, arg := range e.Args {
			l.add(x, arg, 0, 0)
		}
	case api.ReAlt:
		last := len(e.Args) - 1
		for _, arg := range e.Args[:last] {
			l.add(x, arg, 1, 1)
		}
		l.add(x, e.Args[last], 0, 0)
	case api.ReRep:
		l.copies(x)
	}
	x.next = l.next
	return x
}

// add adds a part to the node, with so many instructions of the node before and after it.
func (l *layout) add(x *node, e api.Re, before, after int) {
	l.next += before
	part := l.node(e)
	l.next += after
	x.parts = append(x.parts, part)
	x.captures = x.captures || part.captures
}

// copies adds the copies of its Arg to a ReRep. An InSplit is where a repetition may be left out or made again, and an InJump leads back to it.
func (l *layout) copies(x *node) {
	arg := x.Args[0]
	if x.Hi != unbounded {
		for count := range x.Hi {
			l.add(x, arg, optional(count, x.Lo), 0)
		}
		return
	}
	for range x.Lo - 1 {
		l.add(x, arg, 0, 0)
	}
	l.add(x, arg, optional(0, x.Lo), 1)
}

// optional returns how many instructions come before the repetition after count others.
func optional(count, lo int) int {
	if count < lo {
		return 0
	}
	return 1
}

package rematch

import (
	"texttools/api"
)

// A groupSet contains the group number k if its bit k is 1.
type groupSet uint

func (g groupSet) has(group int) bool {
	return g>>group&1 == 1
}

// A node is a node of the tree with what the search needs to know of the nodes below it.
type node struct {
	api.Re
	parts []*node
	// read are the groups to which references within the node refer.
	read groupSet
}

func nodeOf(e api.Re) *node {
	x := &node{Re: e}
	if e.Op == api.ReBack {
		x.read = 1 << e.Group
	}
	for _, arg := range e.Args {
		part := nodeOf(arg)
		x.parts = append(x.parts, part)
		x.read |= part.read
	}
	return x
}

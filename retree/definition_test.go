package retree_test

import (
	"math/big"

	"texttools/api"
)

// A position is a node of a tree, with the indexes in Args that lead to it.
type position struct {
	node api.Re
	path []int
}

// nodesOf returns the nodes of a tree in order; path leads to the tree.
func nodesOf(e api.Re, path []int) []position {
	var list []position
	var visit func(e api.Re, path []int)
	visit = func(e api.Re, path []int) {
		list = append(list, position{e, path})
		for i, part := range e.Args {
			visit(part, append(path[:len(path):len(path)], i))
		}
	}
	visit(e, path)
	return list
}

// countOf returns the number of nodes of a tree.
func countOf(e api.Re) int {
	count := 1
	for _, part := range e.Args {
		count += countOf(part)
	}
	return count
}

func isWithin(inner, outer position) bool {
	if len(inner.path) < len(outer.path) {
		return false
	}
	for i := range outer.path {
		if inner.path[i] != outer.path[i] {
			return false
		}
	}
	return true
}

// groupsBefore returns the groups that come before the node number index.
func groupsBefore(nodes []position, index int) []position {
	var list []position
	for _, p := range nodes[:index] {
		if p.node.Op == api.ReGroup {
			list = append(list, p)
		}
	}
	return list
}

func hasWrongType(nodes []position, index int) bool {
	e := nodes[index].node
	// What is left when the fields of the operator are taken away must be a node without fields.
	rest, args := e, len(e.Args)
	rest.Op, rest.Args = 0, nil
	switch e.Op {
	case 1, 7, 8:
		return args != 0 || !same(rest, api.Re{})
	case 2:
		rest.Set = api.Charset{}
		return args != 0 || e.Set == api.Charset{} || !same(rest, api.Re{})
	case 3, 4:
		return args < 2 || !same(rest, api.Re{})
	case 5:
		rest.Lo, rest.Hi = 0, 0
		return args != 1 || !same(rest, api.Re{})
	case 6:
		rest.Group = 0
		return args != 1 || !same(rest, api.Re{})
	case 9:
		rest.Group = 0
		return args != 0 || !same(rest, api.Re{})
	}
	return true
}

func hasWrongRange(nodes []position, index int) bool {
	e := nodes[index].node
	switch e.Op {
	case 5:
		return e.Lo < 0 || e.Lo > 64 || e.Hi != -1 && e.Hi < e.Lo || e.Hi > 64
	case 6:
		return e.Group != len(groupsBefore(nodes, index))+1
	}
	return false
}

func hasWrongName(nodes []position, index int) bool {
	if nodes[index].node.Op != 9 {
		return false
	}
	for _, p := range groupsBefore(nodes, index) {
		if p.node.Group == nodes[index].node.Group && !isWithin(nodes[index], p) {
			return false
		}
	}
	return true
}

// hasLimit reports whether a tree exceeds a limit at this node.
func hasLimit(nodes []position, index int) bool {
	return index >= 600 || nodes[index].node.Op == 6 && len(groupsBefore(nodes, index)) >= 9 || len(nodes[index].path) >= 32
}

// definedCheck is Check by its definition: each kind of error at all nodes.
func definedCheck(e api.Re) api.Errno {
	nodes := nodesOf(e, nil)
	for _, kind := range []struct {
		err api.Errno
		has func(nodes []position, index int) bool
	}{{api.ErrType, hasWrongType}, {api.ErrRange, hasWrongRange}, {api.ErrName, hasWrongName}, {api.ErrLimit, hasLimit}} {
		for index := range nodes {
			if kind.has(nodes, index) {
				return kind.err
			}
		}
	}
	return api.OK
}

// resolved returns the tree with the Arg of its group for every reference; whole is the tree itself.
func resolved(e, whole api.Re) api.Re {
	if e.Op == api.ReBack {
		for _, p := range nodesOf(whole, nil) {
			if p.node.Op == api.ReGroup && p.node.Group == e.Group {
				return resolved(p.node.Args[0], whole)
			}
		}
	}
	var args []api.Re
	for _, part := range e.Args {
		args = append(args, resolved(part, whole))
	}
	e.Args = args
	return e
}

// definedNullable is Nullable by its definition, for a valid tree without references.
func definedNullable(e api.Re) bool {
	count := 0
	for _, part := range e.Args {
		if definedNullable(part) {
			count++
		}
	}
	switch e.Op {
	case api.ReCat, api.ReGroup:
		return count == len(e.Args)
	case api.ReAlt:
		return count > 0
	case api.ReRep:
		return count > 0 || e.Lo == 0
	}
	return e.Op != api.ReSet
}

// definedLength is Length by its definition, for a valid tree without references; the greatest length is nil if there is no bound.
func definedLength(e api.Re) (least, most *big.Int) {
	least, most = big.NewInt(0), big.NewInt(0)
	switch e.Op {
	case api.ReSet:
		return big.NewInt(1), big.NewInt(1)
	case api.ReGroup:
		return definedLength(e.Args[0])
	case api.ReRep:
		partLeast, partMost := definedLength(e.Args[0])
		least.Mul(partLeast, big.NewInt(int64(e.Lo)))
		switch {
		case e.Hi == 0 || partMost != nil && partMost.Sign() == 0:
			return least, most
		case e.Hi == -1 || partMost == nil:
			return least, nil
		}
		return least, most.Mul(partMost, big.NewInt(int64(e.Hi)))
	}
	for i, part := range e.Args {
		partLeast, partMost := definedLength(part)
		switch {
		case e.Op == api.ReCat:
			least.Add(least, partLeast)
		case i == 0 || partLeast.Cmp(least) < 0:
			least = partLeast
		}
		switch {
		case most == nil || partMost == nil:
			most = nil
		case e.Op == api.ReCat:
			most.Add(most, partMost)
		case partMost.Cmp(most) > 0:
			most = partMost
		}
	}
	return least, most
}

// counted returns n as Length returns it.
func counted(n *big.Int) int {
	switch {
	case n == nil:
		return -1
	case n.Cmp(big.NewInt(greatest)) > 0:
		return greatest
	}
	return int(n.Int64())
}

// definedFirst is the set of First by its definition, for a valid tree without references.
func definedFirst(e api.Re) api.Charset {
	found := e.Set
	if e.Op == api.ReRep && e.Hi == 0 {
		return found
	}
	for _, part := range e.Args {
		more := definedFirst(part)
		for i := range found.Bits {
			found.Bits[i] |= more.Bits[i]
		}
		if e.Op == api.ReCat && !definedNullable(part) {
			return found
		}
	}
	return found
}

// definedExpand is the result of Expand by its definition, for a valid tree.
func definedExpand(e api.Re) api.Re {
	var args []api.Re
	for _, part := range e.Args {
		args = append(args, definedExpand(part))
	}
	e.Args = args
	if e.Op == api.ReRep {
		return definedRow(e.Lo, e.Hi, args[0])
	}
	return e
}

// definedRow is the row of the table for the bounds lo and hi.
func definedRow(lo, hi int, x api.Re) api.Re {
	switch {
	case lo == 0 && hi == 1, lo == 0 && hi == -1, lo == 1 && hi == -1:
		return rep(lo, hi, x)
	case lo == 0 && hi == 0:
		return empty
	case lo == 1 && hi == 1:
		return x
	case lo >= 2 && hi == lo:
		return cat(several(lo, x)...)
	case lo >= 2 && hi == -1:
		return cat(append(several(lo-1, x), rep(1, -1, x))...)
	}
	return cat(append(several(lo, x), several(hi-lo, rep(0, 1, x))...)...)
}

// stringsOf returns the strings of at most most bytes that a valid tree without references can match.
func stringsOf(e api.Re, most int) map[string]bool {
	found := map[string]bool{}
	switch e.Op {
	case api.ReSet:
		for _, c := range []byte(bytesOf(e.Set)) {
			found[string([]byte{c})] = true
		}
	case api.ReAlt:
		for _, part := range e.Args {
			for s := range stringsOf(part, most) {
				found[s] = true
			}
		}
	case api.ReCat:
		found[""] = true
		for _, part := range e.Args {
			found = joined(found, stringsOf(part, most), most)
		}
	case api.ReRep:
		part, times, hi := stringsOf(e.Args[0], most), map[string]bool{"": true}, e.Hi
		if hi == -1 {
			// More times than that give no other strings: each one that is not empty makes the string longer.
			hi = e.Lo + most + 1
		}
		for count := 0; count <= hi; count++ {
			for s := range times {
				if count >= e.Lo {
					found[s] = true
				}
			}
			times = joined(times, part, most)
		}
	case api.ReGroup:
		return stringsOf(e.Args[0], most)
	default:
		found[""] = true
	}
	return found
}

func joined(left, right map[string]bool, most int) map[string]bool {
	found := map[string]bool{}
	for s := range left {
		for r := range right {
			if len(s)+len(r) <= most {
				found[s+r] = true
			}
		}
	}
	return found
}

package retree_test

import (
	"fmt"
	"math/rand"
	"strings"

	"texttools/api"
)

// greatest is the number as which greater lengths count.
const greatest = 1<<31 - 1

var (
	empty = api.Re{Op: api.ReEmpty}
	begin = api.Re{Op: api.ReBegin}
	end   = api.Re{Op: api.ReEnd}
	a     = set("a")
	b     = set("b")
)

// set returns the tree of one of the bytes.
func set(list string) api.Re {
	return api.Re{Op: api.ReSet, Set: charsetOf(list)}
}

func charsetOf(list string) api.Charset {
	var c api.Charset
	for i := range len(list) {
		c.Bits[list[i]/64] |= 1 << (list[i] % 64)
	}
	return c
}

func cat(parts ...api.Re) api.Re {
	return api.Re{Op: api.ReCat, Args: parts}
}

func alt(parts ...api.Re) api.Re {
	return api.Re{Op: api.ReAlt, Args: parts}
}

func rep(lo, hi int, part api.Re) api.Re {
	return api.Re{Op: api.ReRep, Lo: lo, Hi: hi, Args: []api.Re{part}}
}

func group(number int, part api.Re) api.Re {
	return api.Re{Op: api.ReGroup, Group: number, Args: []api.Re{part}}
}

func back(number int) api.Re {
	return api.Re{Op: api.ReBack, Group: number}
}

// several returns count copies of the tree.
func several(count int, e api.Re) []api.Re {
	var list []api.Re
	for range count {
		list = append(list, copyOf(e))
	}
	return list
}

// sized returns a valid tree of count nodes that neither expands nor has groups.
func sized(count int) api.Re {
	switch count {
	case 1:
		return a
	case 2:
		return rep(0, 1, a)
	}
	return cat(several(count-1, a)...)
}

// leveled returns a valid tree of at least 3 nodes with count levels, within which e is the last node.
func leveled(count int, e api.Re) api.Re {
	for range count - 1 {
		e = cat(a, e)
	}
	return e
}

// groups returns count groups with the numbers from 1 on.
func groups(count int) []api.Re {
	var list []api.Re
	for i := range count {
		list = append(list, group(i+1, a))
	}
	return list
}

// nested returns the tree e within count repetitions.
func nested(count, lo, hi int, e api.Re) api.Re {
	for range count {
		e = rep(lo, hi, e)
	}
	return e
}

func copyOf(e api.Re) api.Re {
	var args []api.Re
	for _, part := range e.Args {
		args = append(args, copyOf(part))
	}
	e.Args = args
	return e
}

// same reports whether two trees are equal; lists without elements are equal, whether they are nil or not.
func same(x, y api.Re) bool {
	if x.Op != y.Op || x.Set != y.Set || x.Lo != y.Lo || x.Hi != y.Hi || x.Group != y.Group || len(x.Args) != len(y.Args) {
		return false
	}
	for i := range x.Args {
		if !same(x.Args[i], y.Args[i]) {
			return false
		}
	}
	return true
}

// bytesOf returns the bytes of the set.
func bytesOf(c api.Charset) string {
	var list []byte
	for i := range 256 {
		if c.Bits[i/64]>>(i%64)&1 == 1 {
			list = append(list, byte(i))
		}
	}
	return string(list)
}

// show writes a tree for the messages of tests.
func show(e api.Re) string {
	var parts []string
	if e.Set != (api.Charset{}) {
		parts = append(parts, fmt.Sprintf("%.60q", bytesOf(e.Set)))
	}
	for _, part := range e.Args {
		parts = append(parts, show(part))
	}
	name := fmt.Sprint(e.Op)
	if 0 <= e.Op && e.Op <= api.ReBack {
		name = strings.Fields("none empty set cat alt rep group begin end back")[e.Op]
	}
	return fmt.Sprintf("%s[%d %d %d](%s)", name, e.Lo, e.Hi, e.Group, strings.Join(parts, " "))
}

// A grower makes random valid trees; repeat is the greatest bound of their repetitions.
type grower struct {
	*rand.Rand
	repeat int
	groups int
	closed []int
}

func (g *grower) grow(depth int) api.Re {
	if depth <= 0 {
		return g.leaf()
	}
	switch g.Intn(12) {
	case 0, 1, 2:
		return cat(g.several(depth)...)
	case 3, 4:
		return alt(g.several(depth)...)
	case 5, 6, 7:
		lo := g.Intn(g.repeat + 1)
		if g.Intn(2) == 0 {
			lo = g.Intn(2)
		}
		hi := []int{-1, lo, lo + g.Intn(g.repeat-lo+1)}[g.Intn(3)]
		return rep(lo, hi, g.grow(depth-1))
	case 8, 9:
		if g.groups == api.MaxGroups {
			return g.leaf()
		}
		g.groups++
		number := g.groups
		e := group(number, g.grow(depth-1))
		g.closed = append(g.closed, number)
		return e
	}
	return g.leaf()
}

func (g *grower) several(depth int) []api.Re {
	var list []api.Re
	for range 2 + g.Intn(3) {
		list = append(list, g.grow(depth-1))
	}
	return list
}

func (g *grower) leaf() api.Re {
	switch op := []int{api.ReEmpty, api.ReBegin, api.ReEnd, api.ReBack, api.ReBack, api.ReSet, api.ReSet, api.ReSet}[g.Intn(8)]; {
	case op == api.ReBack && len(g.closed) > 0:
		return back(g.closed[g.Intn(len(g.closed))])
	case op == api.ReBack || op == api.ReSet:
		return set([]string{"a", "b", "c", "ab", "bc", "abc"}[g.Intn(6)])
	default:
		return api.Re{Op: op}
	}
}

// validTrees returns count random valid trees of up to this depth.
func validTrees(seed int64, count, depth, repeat int) []api.Re {
	random := rand.New(rand.NewSource(seed))
	var list []api.Re
	for len(list) < count {
		g := grower{Rand: random, repeat: repeat}
		if e := g.grow(1 + random.Intn(depth)); definedCheck(e) == api.OK {
			list = append(list, e)
		}
	}
	return list
}

// nodeAt returns the node number index of the tree, in order, and the number of those that are left to skip.
func nodeAt(e *api.Re, index int) (*api.Re, int) {
	if index == 0 {
		return e, 0
	}
	index--
	for i := range e.Args {
		node, rest := nodeAt(&e.Args[i], index)
		if node != nil {
			return node, 0
		}
		index = rest
	}
	return nil, index
}

// disturbed returns the tree with a change of one of its nodes, after which it may still be valid.
func disturbed(random *rand.Rand, e api.Re) api.Re {
	e = copyOf(e)
	node, _ := nodeAt(&e, random.Intn(countOf(e)))
	number := []int{-2, -1, 0, 1, 2, 3, 9, 10, 63, 64, 65, -1 << 63, 1<<63 - 1}[random.Intn(13)]
	switch random.Intn(8) {
	case 0:
		node.Op = random.Intn(12) - 1
	case 1:
		node.Set = charsetOf([]string{"", "a"}[random.Intn(2)])
	case 2:
		node.Lo = number
	case 3:
		node.Hi = number
	case 4:
		node.Group = number
	case 5:
		node.Args = append(node.Args, a)
	case 6:
		node.Args = node.Args[:random.Intn(len(node.Args)+1)]
	case 7:
		*node = []api.Re{{}, rep(2, 1, a), back(1), back(2), group(1, b), group(2, b), cat(a), alt()}[random.Intn(8)]
	}
	return e
}

package recapture_test

import (
	"fmt"
	"math/rand"
	"slices"
	"strings"

	"texttools/api"
	"texttools/locale"
	"texttools/retext"
	"texttools/retree"
)

const (
	leastInt    = -1 << 63
	greatestInt = 1<<63 - 1
)

var (
	empty = api.Re{Op: api.ReEmpty}
	begin = api.Re{Op: api.ReBegin}
	end   = api.Re{Op: api.ReEnd}
	a     = set("a")
	b     = set("b")
	c     = set("c")
)

// set returns the tree of one of the bytes.
func set(list string) api.Re {
	e := api.Re{Op: api.ReSet}
	for i := range len(list) {
		e.Set.Bits[list[i]/64] |= 1 << (list[i] % 64)
	}
	return e
}

func cat(parts ...api.Re) api.Re {
	return api.Re{Op: api.ReCat, Args: parts}
}

func alt(parts ...api.Re) api.Re {
	return api.Re{Op: api.ReAlt, Args: parts}
}

func rep(lo, hi int, part api.Re) api.Re {
	return api.Re{Op: api.ReRep, Lo: lo, Hi: hi, Args: []api.Re{part}}
}

func optional(part api.Re) api.Re {
	return rep(0, 1, part)
}

func star(part api.Re) api.Re {
	return rep(0, -1, part)
}

func plus(part api.Re) api.Re {
	return rep(1, -1, part)
}

func group(number int, part api.Re) api.Re {
	return api.Re{Op: api.ReGroup, Group: number, Args: []api.Re{part}}
}

func back(number int) api.Re {
	return api.Re{Op: api.ReBack, Group: number}
}

// re returns the tree of a pattern in the extended syntax.
func re(pattern string) api.Re {
	e, err, at := retext.Parse(pattern, api.ReExtended, locale.Default())
	if err != api.OK {
		panic(fmt.Sprintf("the pattern %q of a test: %v at %d", pattern, err, at))
	}
	return e
}

// several returns count equal trees.
func several(count int, e api.Re) []api.Re {
	return slices.Repeat([]api.Re{e}, count)
}

// nested returns the tree e within count repetitions.
func nested(count, lo, hi int, e api.Re) api.Re {
	for range count {
		e = rep(lo, hi, e)
	}
	return e
}

// copyOf returns the tree in new memory.
func copyOf(e api.Re) api.Re {
	var args []api.Re
	for _, part := range e.Args {
		args = append(args, copyOf(part))
	}
	e.Args = args
	return e
}

// same reports whether two trees are equal.
func same(x, y api.Re) bool {
	return x.Op == y.Op && x.Set == y.Set && x.Lo == y.Lo && x.Hi == y.Hi && x.Group == y.Group && slices.EqualFunc(x.Args, y.Args, same)
}

// has reports whether a node of the tree has this operator.
func has(e api.Re, op int) bool {
	return e.Op == op || slices.ContainsFunc(e.Args, func(part api.Re) bool { return has(part, op) })
}

// show writes a tree for the messages of tests.
func show(e api.Re) string {
	var parts []string
	for i := range 256 {
		if e.Set.Bits[i/64]>>(i%64)&1 == 1 {
			parts = append(parts, fmt.Sprintf("%q", rune(i)))
		}
	}
	for _, part := range e.Args {
		parts = append(parts, show(part))
	}
	name := fmt.Sprint(e.Op)
	if 0 <= e.Op && e.Op <= api.ReBack {
		name = strings.Fields("none empty set cat alt rep group begin end back")[e.Op]
	}
	switch e.Op {
	case api.ReRep:
		name = fmt.Sprintf("rep %d %d", e.Lo, e.Hi)
	case api.ReGroup, api.ReBack:
		name = fmt.Sprintf("%s %d", name, e.Group)
	}
	return fmt.Sprintf("%.600s", name+"("+strings.Join(parts, " ")+")")
}

// grouped returns the tree with a group around each node, up to nine of them, where the first skip nodes have none.
func grouped(e api.Re, skip int) api.Re {
	count := -skip
	var wrap func(e api.Re) api.Re
	wrap = func(e api.Re) api.Re {
		count++
		number := count
		var args []api.Re
		for _, part := range e.Args {
			args = append(args, wrap(part))
		}
		e.Args = args
		if number < 1 || number > api.MaxGroups {
			return e
		}
		return group(number, e)
	}
	return wrap(e)
}

// A grower makes random trees without back references; repeat is the greatest bound of their repetitions.
type grower struct {
	*rand.Rand
	repeat, groups int
}

func (g *grower) grow(depth int) api.Re {
	if depth <= 0 {
		return g.leaf()
	}
	switch g.Intn(12) {
	case 0, 1, 2:
		return cat(g.several(depth)...)
	case 3, 4:
		return alt(g.several(depth)...)
	case 5, 6, 7:
		lo := g.Intn(g.repeat + 1)
		if g.Intn(2) == 0 {
			lo = g.Intn(2)
		}
		hi := []int{-1, lo, lo + g.Intn(g.repeat-lo+1)}[g.Intn(3)]
		return rep(lo, hi, g.grow(depth-1))
	case 8, 9, 10:
		if g.groups == api.MaxGroups {
			return g.leaf()
		}
		g.groups++
		number := g.groups
		return group(number, g.grow(depth-1))
	}
	return g.leaf()
}

func (g *grower) several(depth int) []api.Re {
	var list []api.Re
	for range 2 + g.Intn(2) {
		list = append(list, g.grow(depth-1))
	}
	return list
}

func (g *grower) leaf() api.Re {
	switch g.Intn(14) {
	case 0:
		return begin
	case 1:
		return end
	case 2, 3:
		return empty
	}
	return set([]string{"a", "a", "b", "ab", "b\n", "ab\n"}[g.Intn(6)])
}

// validTrees returns count random valid trees with groups of up to this depth, without back references.
func validTrees(seed int64, count, depth, repeat int) []api.Re {
	random := rand.New(rand.NewSource(seed))
	var list []api.Re
	for len(list) < count {
		g := grower{Rand: random, repeat: repeat}
		if e := g.grow(1 + random.Intn(depth)); retree.Check(e) == api.OK && retree.Groups(e) > 0 {
			list = append(list, e)
		}
	}
	return list
}

// smallTrees returns all trees without groups of up to this number of levels, with sequences and choices of two, and some repetitions.
func smallTrees(levels int) []api.Re {
	list := []api.Re{empty, a, set("ab\n"), begin, end}
	if levels == 1 {
		return list
	}
	below := smallTrees(levels - 1)
	for _, x := range below {
		for _, bounds := range [][2]int{{0, 1}, {0, -1}, {1, -1}, {0, 0}, {1, 1}, {2, 2}, {2, -1}, {0, 2}, {1, 3}, {2, 3}, {3, -1}} {
			list = append(list, rep(bounds[0], bounds[1], x))
		}
		for _, y := range below {
			list = append(list, cat(x, y), alt(x, y))
		}
	}
	return list
}

// randomText returns a string of up to most of the bytes that the random trees have.
func randomText(random *rand.Rand, most int) string {
	list := make([]byte, random.Intn(most+1))
	for i := range list {
		list[i] = "aaaaabbb\nc"[random.Intn(10)]
	}
	return string(list)
}

// textsUpTo returns all strings of up to most of these bytes.
func textsUpTo(most int, bytes string) []string {
	list := []string{""}
	for first := 0; most > 0; most-- {
		last := len(list)
		for _, s := range list[first:last] {
			for i := range len(bytes) {
				list = append(list, s+bytes[i:i+1])
			}
		}
		first = last
	}
	return list
}

// spansOf returns all spans of a string.
func spansOf(s string) []api.Span {
	var list []api.Span
	for from := range len(s) + 1 {
		for to := from; to <= len(s); to++ {
			list = append(list, api.Span{From: from, To: to})
		}
	}
	return list
}

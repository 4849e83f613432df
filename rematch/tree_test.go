package rematch_test

import (
	"fmt"
	"math/rand"
	"slices"
	"strings"

	"texttools/api"
	"texttools/locale"
	"texttools/retext"
	"texttools/retree"
)

var (
	empty = api.Re{Op: api.ReEmpty}
	begin = api.Re{Op: api.ReBegin}
	end   = api.Re{Op: api.ReEnd}
	a     = set("a")
	b     = set("b")
	c     = set("c")
)

// set returns the tree of one of the bytes.
func set(list string) api.Re {
	e := api.Re{Op: api.ReSet}
	for i := range len(list) {
		e.Set.Bits[list[i]/64] |= 1 << (list[i] % 64)
	}
	return e
}

func cat(parts ...api.Re) api.Re {
	return api.Re{Op: api.ReCat, Args: parts}
}

func alt(parts ...api.Re) api.Re {
	return api.Re{Op: api.ReAlt, Args: parts}
}

func rep(lo, hi int, part api.Re) api.Re {
	return api.Re{Op: api.ReRep, Lo: lo, Hi: hi, Args: []api.Re{part}}
}

func star(part api.Re) api.Re {
	return rep(0, -1, part)
}

func group(number int, part api.Re) api.Re {
	return api.Re{Op: api.ReGroup, Group: number, Args: []api.Re{part}}
}

func back(number int) api.Re {
	return api.Re{Op: api.ReBack, Group: number}
}

// re returns the tree of a pattern in the extended syntax.
func re(pattern string) api.Re {
	e, err, at := retext.Parse(pattern, api.ReExtended, locale.Default())
	if err != api.OK {
		panic(fmt.Sprintf("the pattern %q of a test: %v at %d", pattern, err, at))
	}
	return e
}

// several returns count equal trees.
func several(count int, e api.Re) []api.Re {
	return slices.Repeat([]api.Re{e}, count)
}

// upTo returns a tree without groups that matches up to count times the byte a.
func upTo(count int) api.Re {
	var parts []api.Re
	for rest := count; rest > 0 || len(parts) < 2; rest -= min(rest, api.MaxRepeat) {
		parts = append(parts, rep(0, min(rest, api.MaxRepeat), a))
	}
	return cat(parts...)
}

// nested returns the tree e within count repetitions.
func nested(count, lo, hi int, e api.Re) api.Re {
	for range count {
		e = rep(lo, hi, e)
	}
	return e
}

// copyOf returns the tree in new memory.
func copyOf(e api.Re) api.Re {
	var args []api.Re
	for _, part := range e.Args {
		args = append(args, copyOf(part))
	}
	e.Args = args
	return e
}

// same reports whether two trees are equal.
func same(x, y api.Re) bool {
	return x.Op == y.Op && x.Set == y.Set && x.Lo == y.Lo && x.Hi == y.Hi && x.Group == y.Group && slices.EqualFunc(x.Args, y.Args, same)
}

// renumbered returns the tree with numbers of groups and references that are greater by more.
func renumbered(e api.Re, more int) api.Re {
	e = copyOf(e)
	if e.Op == api.ReGroup || e.Op == api.ReBack {
		e.Group += more
	}
	for i, part := range e.Args {
		e.Args[i] = renumbered(part, more)
	}
	return e
}

// has reports whether a node of the tree has this operator.
func has(e api.Re, op int) bool {
	return e.Op == op || slices.ContainsFunc(e.Args, func(part api.Re) bool { return has(part, op) })
}

// show writes a tree for the messages of tests.
func show(e api.Re) string {
	var parts []string
	for i := range 256 {
		if e.Set.Bits[i/64]>>(i%64)&1 == 1 {
			parts = append(parts, fmt.Sprintf("%q", rune(i)))
		}
	}
	for _, part := range e.Args {
		parts = append(parts, show(part))
	}
	name := fmt.Sprint(e.Op)
	if 0 <= e.Op && e.Op <= api.ReBack {
		name = strings.Fields("none empty set cat alt rep group begin end back")[e.Op]
	}
	switch e.Op {
	case api.ReRep:
		name = fmt.Sprintf("rep %d %d", e.Lo, e.Hi)
	case api.ReGroup, api.ReBack:
		name = fmt.Sprintf("%s %d", name, e.Group)
	}
	return fmt.Sprintf("%.600s", name+"("+strings.Join(parts, " ")+")")
}

// A grower makes random valid trees.
type grower struct {
	*rand.Rand
	groups int
	closed []int
}

func (g *grower) grow(depth int) api.Re {
	if depth <= 0 {
		return g.leaf()
	}
	switch g.Intn(10) {
	case 0, 1, 2:
		return cat(g.several(depth)...)
	case 3, 4:
		return alt(g.several(depth)...)
	case 5, 6:
		lo := []int{0, 0, 0, 1, 2}[g.Intn(5)]
		return rep(lo, []int{-1, -1, lo, lo + 1, lo + 2}[g.Intn(5)], g.grow(depth-1))
	case 7, 8:
		if g.groups == api.MaxGroups {
			return g.leaf()
		}
		g.groups++
		number := g.groups
		e := group(number, g.grow(depth-1))
		g.closed = append(g.closed, number)
		return e
	}
	return g.leaf()
}

func (g *grower) several(depth int) []api.Re {
	var list []api.Re
	for range 2 + g.Intn(2) {
		list = append(list, g.grow(depth-1))
	}
	return list
}

func (g *grower) leaf() api.Re {
	switch kind := g.Intn(16); {
	case kind < 3 && len(g.closed) > 0:
		return back(g.closed[g.Intn(len(g.closed))])
	case kind == 3:
		return begin
	case kind == 4:
		return end
	case kind < 7:
		return empty
	}
	return set([]string{"a", "a", "b", "ab", "b\n", "ab\n"}[g.Intn(6)])
}

// validTrees returns count random valid trees of up to this depth.
func validTrees(seed int64, count, depth int) []api.Re {
	random := rand.New(rand.NewSource(seed))
	var list []api.Re
	for len(list) < count {
		g := grower{Rand: random}
		if e := g.grow(1 + random.Intn(depth)); retree.Check(e) == api.OK {
			list = append(list, e)
		}
	}
	return list
}

// randomString returns a string of up to most of the bytes that the random trees have.
func randomString(random *rand.Rand, most int) string {
	list := make([]byte, random.Intn(most+1))
	for i := range list {
		list[i] = "aaaabbb\nc"[random.Intn(9)]
	}
	return string(list)
}

// stringsUpTo returns all strings of up to most of these bytes.
func stringsUpTo(most int, bytes string) []string {
	list := []string{""}
	for first := 0; most > 0; most-- {
		last := len(list)
		for _, s := range list[first:last] {
			for i := range len(bytes) {
				list = append(list, s+bytes[i:i+1])
			}
		}
		first = last
	}
	return list
}

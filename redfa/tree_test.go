package redfa_test

import (
	"fmt"
	"math/rand"
	"strings"
	"testing"

	"texttools/api"
	"texttools/locale"
	"texttools/reprog"
	"texttools/retext"
	"texttools/retree"
)

const (
	leastInt    = -1 << 63
	greatestInt = 1<<63 - 1
)

var (
	empty = api.Re{Op: api.ReEmpty}
	begin = api.Re{Op: api.ReBegin}
	end   = api.Re{Op: api.ReEnd}
	a     = set("a")
	b     = set("b")
)

func charsetOf(list string) api.Charset {
	var c api.Charset
	for i := range len(list) {
		c.Bits[list[i]/64] |= 1 << (list[i] % 64)
	}
	return c
}

// bytesOf returns the bytes of the set.
func bytesOf(c api.Charset) string {
	var list []byte
	for i := range 256 {
		if c.Bits[i/64]>>(i%64)&1 == 1 {
			list = append(list, byte(i))
		}
	}
	return string(list)
}

// set returns the tree of one of the bytes.
func set(list string) api.Re {
	return api.Re{Op: api.ReSet, Set: charsetOf(list)}
}

func cat(parts ...api.Re) api.Re {
	return api.Re{Op: api.ReCat, Args: parts}
}

func alt(parts ...api.Re) api.Re {
	return api.Re{Op: api.ReAlt, Args: parts}
}

func rep(lo, hi int, part api.Re) api.Re {
	return api.Re{Op: api.ReRep, Lo: lo, Hi: hi, Args: []api.Re{part}}
}

func group(number int, part api.Re) api.Re {
	return api.Re{Op: api.ReGroup, Group: number, Args: []api.Re{part}}
}

// re returns the tree of a pattern in the extended syntax.
func re(pattern string) api.Re {
	e, err, at := retext.Parse(pattern, api.ReExtended, locale.Default())
	if err != api.OK {
		panic(fmt.Sprintf("the pattern %q of a test: %v at %d", pattern, err, at))
	}
	return e
}

// compiled returns the program of a tree that has one.
func compiled(t *testing.T, e api.Re, lines bool) api.ReProg {
	t.Helper()
	p, err := reprog.Compile(e, lines)
	if err != api.OK {
		t.Fatalf("Compile(%s, %v) = %v", show(e), lines, err)
	}
	return p
}

// show writes a tree for the messages of tests.
func show(e api.Re) string {
	var parts []string
	if e.Set != (api.Charset{}) {
		parts = append(parts, fmt.Sprintf("%.60q", bytesOf(e.Set)))
	}
	for _, part := range e.Args {
		parts = append(parts, show(part))
	}
	name := fmt.Sprint(e.Op)
	if 0 <= e.Op && e.Op <= api.ReBack {
		name = strings.Fields("none empty set cat alt rep group begin end back")[e.Op]
	}
	switch e.Op {
	case api.ReRep:
		name = fmt.Sprintf("rep %d %d", e.Lo, e.Hi)
	case api.ReGroup, api.ReBack:
		name = fmt.Sprintf("%s %d", name, e.Group)
	}
	return fmt.Sprintf("%.600s", name+"("+strings.Join(parts, " ")+")")
}

// A grower makes random trees without back references; repeat is the greatest bound of their repetitions.
type grower struct {
	*rand.Rand
	repeat int
	groups int
}

func (g *grower) grow(depth int) api.Re {
	if depth <= 0 {
		return g.leaf()
	}
	switch g.Intn(11) {
	case 0, 1, 2:
		return cat(g.several(depth)...)
	case 3, 4, 5:
		return alt(g.several(depth)...)
	case 6, 7, 8:
		lo := g.Intn(g.repeat + 1)
		if g.Intn(2) == 0 {
			lo = g.Intn(2)
		}
		hi := []int{-1, lo, lo + g.Intn(g.repeat-lo+1)}[g.Intn(3)]
		return rep(lo, hi, g.grow(depth-1))
	case 9:
		if g.groups == api.MaxGroups {
			return g.leaf()
		}
		g.groups++
		number := g.groups
		return group(number, g.grow(depth-1))
	}
	return g.leaf()
}

func (g *grower) several(depth int) []api.Re {
	var list []api.Re
	for range 2 + g.Intn(3) {
		list = append(list, g.grow(depth-1))
	}
	return list
}

func (g *grower) leaf() api.Re {
	switch g.Intn(9) {
	case 0:
		return begin
	case 1:
		return end
	case 2:
		return empty
	}
	return set([]string{"a", "a", "b", "ab", "b\n", "ab\n", "c", "\n"}[g.Intn(8)])
}

// validTrees returns count random valid trees of up to this depth, without back references.
func validTrees(seed int64, count, depth, repeat int) []api.Re {
	random := rand.New(rand.NewSource(seed))
	var list []api.Re
	for len(list) < count {
		g := grower{Rand: random, repeat: repeat}
		if e := g.grow(1 + random.Intn(depth)); retree.Check(e) == api.OK {
			list = append(list, e)
		}
	}
	return list
}

// smallTrees returns all trees without groups of up to this number of levels, with sequences and choices of two, and some repetitions.
func smallTrees(levels int) []api.Re {
	list := []api.Re{empty, a, b, begin, end}
	if levels == 1 {
		return list
	}
	below := smallTrees(levels - 1)
	for _, x := range below {
		for _, bounds := range [][2]int{{0, 1}, {0, -1}, {1, -1}, {0, 0}, {2, 2}, {2, -1}, {0, 2}, {1, 3}} {
			list = append(list, rep(bounds[0], bounds[1], x))
		}
		for _, y := range below {
			list = append(list, cat(x, y), alt(x, y))
		}
	}
	return list
}

// randomText returns a random string of at most this length.
func randomText(random *rand.Rand, most int) string {
	list := make([]byte, random.Intn(most+1))
	for i := range list {
		list[i] = "aaaabbbb\n\nc"[random.Intn(11)]
	}
	return string(list)
}

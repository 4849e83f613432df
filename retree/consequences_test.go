package retree_test

import (
	"math/rand"
	"testing"

	"texttools/api"
	"texttools/retree"
)

// A chooser chooses a string of a tree: for each ReSet a byte, for each ReAlt one of Args, for each ReRep a number of times.
type chooser struct {
	*rand.Rand
	// given has, by the number of each group, the string that it gave last.
	given map[int]string
}

// choose returns a string, or false for a reference to a group that gave none.
func (c *chooser) choose(e api.Re) (string, bool) {
	switch e.Op {
	case api.ReSet:
		list := bytesOf(e.Set)
		at := c.Intn(len(list))
		return list[at : at+1], true
	case api.ReAlt:
		return c.choose(e.Args[c.Intn(len(e.Args))])
	case api.ReCat:
		return c.chooseAll(e.Args)
	case api.ReRep:
		hi := e.Hi
		if hi == -1 {
			hi = e.Lo + 3
		}
		count := []int{e.Lo, hi, e.Lo + c.Intn(hi-e.Lo+1)}[c.Intn(3)]
		return c.chooseAll(several(count, e.Args[0]))
	case api.ReGroup:
		s, ok := c.choose(e.Args[0])
		if ok {
			c.given[e.Group] = s
		}
		return s, ok
	case api.ReBack:
		s, ok := c.given[e.Group]
		return s, ok
	}
	return "", true
}

func (c *chooser) chooseAll(list []api.Re) (string, bool) {
	whole := ""
	for _, part := range list {
		s, ok := c.choose(part)
		if !ok {
			return "", false
		}
		whole += s
	}
	return whole, true
}

// checkChosen checks what P8.7 says of a string of a tree.
func checkChosen(t *testing.T, e api.Re, s string) {
	t.Helper()
	least, most := retree.Length(e)
	if len(s) < least || most != -1 && len(s) > most {
		t.Fatalf("%s has the string %.60q of %d bytes, not from %d to %d", show(e), s, len(s), least, most)
	}
	set, nullable := retree.First(e)
	if s == "" {
		if !nullable || !retree.Nullable(e) {
			t.Fatalf("%s has the empty string, but is not nullable", show(e))
		}
		return
	}
	if set.Bits[s[0]/64]>>(s[0]%64)&1 == 0 {
		t.Fatalf("%s has the string %.60q, which begins with no byte of %q", show(e), s, bytesOf(set))
	}
}

func TestP8_7ChosenStrings(t *testing.T) {
	random := rand.New(rand.NewSource(95))
	chosen, emptyOnes := 0, 0
	for _, e := range append(validTrees(96, 3000, 6, 2), validTrees(97, 1000, 3, 64)...) {
		for range 10 {
			c := chooser{random, map[int]string{}}
			s, ok := c.choose(e)
			if !ok {
				continue
			}
			chosen++
			if s == "" {
				emptyOnes++
			}
			checkChosen(t, e, s)
		}
	}
	if chosen < 20000 || emptyOnes < 2000 {
		t.Errorf("only %d strings were chosen, %d of them empty", chosen, emptyOnes)
	}
}

func TestP8_7References(t *testing.T) {
	random := rand.New(rand.NewSource(98))
	for _, e := range []api.Re{
		cat(group(1, alt(a, cat(b, b))), back(1)), cat(rep(0, 2, group(1, rep(0, 3, set("ab")))), alt(b, back(1))), rep(0, 3, cat(group(1, alt(a, empty)), rep(0, -1, back(1)))), cat(group(1, set("abc")), group(2, rep(1, 2, back(1))), back(2), back(1)), alt(group(1, a), back(1)),
	} {
		for range 300 {
			c := chooser{random, map[int]string{}}
			if s, ok := c.choose(e); ok {
				checkChosen(t, e, s)
			}
		}
	}
}

// isPlain reports whether the only repetitions of the tree are those that Expand leaves.
func isPlain(e api.Re) bool {
	for _, p := range nodesOf(e, nil) {
		bounds := [2]int{p.node.Lo, p.node.Hi}
		if p.node.Op == api.ReRep && bounds != [2]int{0, 1} && bounds != [2]int{0, -1} && bounds != [2]int{1, -1} {
			return false
		}
	}
	return true
}

func TestP8_8Expansion(t *testing.T) {
	unchanged, valid, limited := 0, 0, 0
	for _, e := range append(append(validTrees(99, 6000, 5, 4), validTrees(100, 2000, 4, 64)...), validTrees(101, 2000, 4, 1)...) {
		got, err := retree.Expand(e)
		if err != api.OK {
			if err != api.ErrLimit || isPlain(e) {
				t.Fatalf("Expand(%s) = %v", show(e), err)
			}
			limited++
			continue
		}
		if !isPlain(got) {
			t.Fatalf("Expand(%s) = %s", show(e), show(got))
		}
		if isPlain(e) {
			unchanged++
			if !same(got, e) {
				t.Fatalf("Expand(%s), without counted repetitions, = %s", show(e), show(got))
			}
		}
		if again, err := retree.Expand(got); retree.Check(got) == api.OK && (err != api.OK || !same(again, got)) {
			t.Fatalf("Expand(%s) = %s, %v", show(got), show(again), err)
		}
		if retree.Check(got) == api.OK && !isPlain(e) {
			valid++
			checkSameValues(t, e, got)
		}
	}
	if unchanged < 1000 || valid < 1000 || limited < 20 {
		t.Errorf("%d trees are unchanged, %d expanded ones are valid, %d have too many nodes", unchanged, valid, limited)
	}
}

// checkSameValues checks that Nullable, Length and First of two trees are equal.
func checkSameValues(t *testing.T, x, y api.Re) {
	t.Helper()
	leastX, mostX := retree.Length(x)
	leastY, mostY := retree.Length(y)
	firstX, alsoX := retree.First(x)
	firstY, alsoY := retree.First(y)
	if retree.Nullable(x) != retree.Nullable(y) || leastX != leastY || mostX != mostY || firstX != firstY || alsoX != alsoY {
		t.Errorf("%s and %s have different values", show(x), show(y))
	}
}

func TestP8_8GreatLengths(t *testing.T) {
	// The groups and their references make the lengths great, and the tree stays small.
	for _, last := range []api.Re{rep(2, 2, back(9)), rep(3, 5, back(9)), rep(2, -1, back(9)), rep(0, 4, back(9)), rep(0, 0, back(9)), rep(1, 1, back(9))} {
		for _, first := range []api.Re{a, rep(0, 1, a), rep(0, -1, a), alt(a, empty)} {
			for _, count := range []int{12, 13, 14, 15, 20} {
				e := cat(rep(1, 1, chain(count, first)), last)
				got, err := retree.Expand(e)
				if err != api.OK || retree.Check(got) != api.OK {
					t.Fatalf("Expand(%s) = %v; Check of it is %v", show(e), err, retree.Check(got))
				}
				checkSameValues(t, e, got)
			}
		}
	}
}

// sumOf returns the sum as Length returns it.
func sumOf(x, y int) int {
	switch {
	case x == -1 || y == -1:
		return -1
	case x+y > greatest:
		return greatest
	}
	return x + y
}

// checkSums checks what P8.9 says of a ReCat whose Args are valid. The lengths are those of a tree that is not valid if the Args have the same groups.
func checkSums(t *testing.T, list []api.Re) bool {
	t.Helper()
	whole := cat(list...)
	size, groups, least, most := 1, 0, 0, 0
	for _, e := range list {
		size += retree.Size(e)
		groups += retree.Groups(e)
		partLeast, partMost := retree.Length(e)
		least, most = sumOf(least, partLeast), sumOf(most, partMost)
	}
	isValid := retree.Check(whole) == api.OK
	if !isValid {
		least, most = 0, 0
	}
	gotLeast, gotMost := retree.Length(whole)
	if retree.Size(whole) != size || retree.Groups(whole) != groups || gotLeast != least || gotMost != most {
		t.Errorf("%.600s has %d nodes, %d groups and the lengths %d and %d; the sums are %d, %d, %d, %d", show(whole), retree.Size(whole), retree.Groups(whole), gotLeast, gotMost, size, groups, least, most)
	}
	return isValid
}

func TestP8_9Composition(t *testing.T) {
	random := rand.New(rand.NewSource(102))
	trees := append(validTrees(103, 2000, 4, 64), validTrees(104, 2000, 2, 64)...)
	valid := 0
	for range 10000 {
		var list []api.Re
		for range 2 + random.Intn(3) {
			list = append(list, trees[random.Intn(len(trees))])
		}
		if checkSums(t, list) {
			valid++
		}
	}
	if valid < 1000 {
		t.Errorf("only %d of the trees are valid", valid)
	}
}

func TestP8_9GreatLengths(t *testing.T) {
	list := []api.Re{a, empty, loop, ones(5), ones(4), powered(5), powered(9), rep(0, 1, ones(5)), rep(2, -1, powered(6)), group(1, powered(6)), cat(group(1, ones(3)), back(1))}
	for _, x := range list {
		for _, y := range list {
			for _, z := range list {
				checkSums(t, []api.Re{x, y})
				checkSums(t, []api.Re{x, y, z})
			}
		}
	}
}

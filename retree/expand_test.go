package retree_test

import (
	"fmt"
	"math/rand"
	"testing"

	"texttools/api"
	"texttools/retree"
)

// checkExpand checks the expanded tree of a valid tree, and that the call leaves its argument as it is.
func checkExpand(t *testing.T, e, want api.Re) {
	t.Helper()
	before := copyOf(e)
	got, err := retree.Expand(e)
	if err != api.OK || !same(got, want) {
		t.Errorf("Expand(%.300s) = %.600s, %v; want %.600s", show(e), show(got), err, show(want))
	}
	if !same(e, before) {
		t.Errorf("Expand has changed its argument to %.300s", show(e))
	}
}

func checkExpandError(t *testing.T, name string, e api.Re, want api.Errno) {
	t.Helper()
	if got, err := retree.Expand(e); err != want || !same(got, api.Re{}) {
		t.Errorf("%s: Expand = %.300s, %v; want %v", name, show(got), err, want)
	}
}

func TestP8_6Rows(t *testing.T) {
	for _, x := range []api.Re{a, empty, end, ab, alt(a, empty), group(1, b)} {
		optional, some := rep(0, 1, x), rep(1, -1, x)
		for _, c := range []struct {
			lo, hi int
			want   api.Re
		}{
			{0, 1, optional}, {0, -1, rep(0, -1, x)}, {1, -1, some},
			{0, 0, empty},
			{1, 1, x},
			{2, 2, cat(x, x)}, {3, 3, cat(x, x, x)}, {64, 64, cat(several(64, x)...)},
			{2, -1, cat(x, some)}, {3, -1, cat(x, x, some)}, {64, -1, cat(append(several(63, x), some)...)},
			{0, 2, cat(optional, optional)}, {1, 2, cat(x, optional)}, {0, 3, cat(optional, optional, optional)}, {1, 3, cat(x, optional, optional)}, {2, 3, cat(x, x, optional)}, {2, 4, cat(x, x, optional, optional)}, {0, 64, cat(several(64, optional)...)}, {1, 64, cat(append([]api.Re{x}, several(63, optional)...)...)}, {63, 64, cat(append(several(63, x), optional)...)},
		} {
			checkExpand(t, rep(c.lo, c.hi, x), c.want)
			checkExpand(t, alt(rep(c.lo, c.hi, x), a), alt(c.want, a))
			checkExpand(t, rep(0, -1, rep(c.lo, c.hi, x)), rep(0, -1, c.want))
		}
	}
}

func TestP8_6AllBounds(t *testing.T) {
	for lo := range 65 {
		checkExpand(t, rep(lo, -1, ab), definedRow(lo, -1, ab))
		for hi := lo; hi <= 64; hi++ {
			checkExpand(t, rep(lo, hi, ab), definedRow(lo, hi, ab))
		}
	}
}

func TestP8_6OtherNodes(t *testing.T) {
	for _, e := range []api.Re{
		empty, a, begin, end, ab, alt(a, b, empty), cat(cat(a, b), alt(a, alt(a, b))), group(1, empty), cat(group(1, group(2, a)), back(2), back(1)), rep(0, -1, rep(1, -1, rep(0, 1, a))), sized(600), leveled(32, a), cat(groups(9)...),
	} {
		checkExpand(t, e, e)
	}
	checkExpand(t, api.Re{Op: api.ReEnd, Args: make([]api.Re, 0, 4)}, end)
}

func TestP8_6Nested(t *testing.T) {
	twice, optional := cat(a, a), rep(0, 1, a)
	for _, c := range []struct{ e, want api.Re }{
		{rep(2, 2, rep(2, 2, a)), cat(twice, twice)},
		{rep(0, -1, rep(2, 2, a)), rep(0, -1, twice)},
		{rep(0, 1, rep(1, 1, a)), optional},
		{rep(1, 1, rep(1, 1, rep(1, 1, a))), a},
		{rep(1, 1, rep(2, 2, a)), twice},
		{rep(0, 0, rep(2, 2, a)), empty},
		{rep(2, 2, rep(0, 0, a)), cat(empty, empty)},
		{rep(0, 1, rep(0, 0, a)), rep(0, 1, empty)},
		{rep(1, 2, rep(2, -1, a)), cat(cat(a, rep(1, -1, a)), rep(0, 1, cat(a, rep(1, -1, a))))},
		{rep(2, -1, rep(0, 2, a)), cat(cat(optional, optional), rep(1, -1, cat(optional, optional)))},
		{cat(a, rep(2, 2, b), rep(0, 0, a), rep(1, 1, a)), cat(a, cat(b, b), empty, a)},
		{alt(rep(2, 2, a), rep(0, 2, a)), alt(twice, cat(optional, optional))},
		{rep(2, 2, cat(b, rep(2, 2, a))), cat(cat(b, twice), cat(b, twice))},
		{group(1, rep(2, 2, group(2, rep(1, 1, a)))), group(1, cat(group(2, a), group(2, a)))},
		{rep(2, 2, group(1, a)), cat(group(1, a), group(1, a))},
		{rep(2, 3, cat(group(1, a), back(1))), cat(cat(group(1, a), back(1)), cat(group(1, a), back(1)), rep(0, 1, cat(group(1, a), back(1))))},
		{cat(rep(0, 0, group(1, a)), group(2, b), back(1)), cat(empty, group(2, b), back(1))},
		{cat(group(1, a), rep(2, 2, back(1)), rep(2, -1, begin)), cat(group(1, a), cat(back(1), back(1)), cat(begin, rep(1, -1, begin)))},
	} {
		checkExpand(t, c.e, c.want)
	}
}

func TestP8_6Errors(t *testing.T) {
	errs := []api.Errno{api.ErrType, api.ErrRange, api.ErrName, api.ErrLimit}
	for i, kind := range faults() {
		for _, e := range kind {
			checkExpandError(t, "a fault", e, errs[i])
			checkExpandError(t, "a fault", rep(0, 0, e), errs[i])
			checkExpandError(t, "a fault and a great result", cat(powered(20), e), errs[i])
		}
	}
	checkExpandError(t, "ten groups", rep(2, 2, cat(groups(10)...)), api.ErrLimit)
	checkExpandError(t, "a wrong number", rep(2, 2, group(2, a)), api.ErrRange)
}

// filler returns a part that has count nodes, at least 2, when it is expanded.
func filler(count int) api.Re {
	if count < 65 {
		return sized(count)
	}
	size := (count - 2) / 64
	list := append([]api.Re{rep(64, 64, sized(size))}, several(count-2-64*size, a)...)
	if len(list) == 1 {
		// A part without others needs a node of its own above it.
		return group(1, list[0])
	}
	return cat(list...)
}

// checkLimit checks that a tree with the part e is expanded to at most MaxInsts nodes, where size is the number of nodes of the expanded part.
func checkLimit(t *testing.T, name string, e api.Re, size int) {
	t.Helper()
	fits := cat(e, filler(4095-size))
	got, err := retree.Expand(fits)
	if err != api.OK || countOf(got) != 4096 {
		t.Errorf("%s: Expand returns %d nodes, %v", name, countOf(got), err)
	}
	exceeds := cat(e, filler(4096-size))
	checkExpandError(t, name, exceeds, api.ErrLimit)
	if retree.Check(fits) != api.OK || retree.Check(exceeds) != api.OK {
		t.Errorf("%s: the trees are not valid", name)
	}
}

func TestP8_6LimitOfRows(t *testing.T) {
	for lo := range 65 {
		for hi := -1; hi <= 64; hi++ {
			if hi != -1 && hi < lo {
				continue
			}
			for _, x := range []api.Re{a, ab} {
				row := definedRow(lo, hi, x)
				checkLimit(t, fmt.Sprintf("%d to %d", lo, hi), rep(lo, hi, x), countOf(row))
			}
		}
	}
}

func TestP8_6LimitOfNodes(t *testing.T) {
	for _, e := range []api.Re{
		empty, begin, end, set("abc"), alt(a, b, empty), cat(cat(a, b), a), rep(0, -1, ab), rep(0, 1, rep(2, 3, a)), rep(1, -1, rep(3, -1, a)), rep(1, 1, rep(1, 1, a)), rep(0, 0, powered(20)), rep(5, 5, rep(0, 0, powered(20))), rep(3, 7, rep(2, -1, rep(0, 5, ab))), alt(rep(2, 2, a), rep(0, 0, a), rep(1, 1, a)),
	} {
		checkLimit(t, show(e), e, countOf(definedExpand(small(e))))
	}
}

// small returns the tree without what is repeated 0 times, which has no effect on the result.
func small(e api.Re) api.Re {
	if e.Op == api.ReRep && e.Lo == 0 && e.Hi == 0 {
		return rep(0, 0, a)
	}
	e = copyOf(e)
	for i := range e.Args {
		e.Args[i] = small(e.Args[i])
	}
	return e
}

func TestP8_6LimitAlone(t *testing.T) {
	// 63 and 65 are divisors of 4095, the number of nodes below the root.
	checkSizeOfExpanded(t, rep(63, 63, sized(65)), 4096)
	checkExpandError(t, "copies", rep(64, 64, sized(64)), api.ErrLimit)
	checkSizeOfExpanded(t, rep(63, -1, sized(64)), 1+62*64+65)
	checkSizeOfExpanded(t, cat(rep(63, -1, sized(64)), sized(61)), 4096)
	checkExpandError(t, "copies and a repetition", cat(rep(63, -1, sized(64)), sized(62)), api.ErrLimit)
	checkSizeOfExpanded(t, rep(0, 63, sized(64)), 4096)
	checkExpandError(t, "repetitions", rep(0, 64, sized(63)), api.ErrLimit)
	checkSizeOfExpanded(t, rep(0, 64, sized(62)), 1+64*63)
	checkSizeOfExpanded(t, cat(groups(9)...), 19)
	checkSizeOfExpanded(t, chain(60, a), 1+2+8*62+1)
	// References count as one node each, not as their groups.
	list := several(63, back(1))
	checkSizeOfExpanded(t, cat(group(1, rep(10, 10, sized(100))), rep(40, 40, cat(list...))), 1+1+1001+1+40*64)
	checkExpandError(t, "a group", cat(group(1, rep(64, 64, sized(64))), back(1)), api.ErrLimit)
}

func checkSizeOfExpanded(t *testing.T, e api.Re, want int) {
	t.Helper()
	got, err := retree.Expand(e)
	if size := countOf(got); err != api.OK || size != want {
		t.Errorf("Expand(%.300s) returns %d nodes, %v; want %d", show(e), size, err, want)
	}
}

func TestP8_6VeryManyNodes(t *testing.T) {
	for count := 3; count <= 31; count++ {
		for _, bounds := range [][2]int{{64, 64}, {63, 64}, {64, -1}, {0, 64}, {16, 16}, {32, 32}} {
			e := nested(count, bounds[0], bounds[1], a)
			checkExpandError(t, "nested repetitions", e, api.ErrLimit)
			checkExpandError(t, "nested repetitions", nested(31-count, 0, 1, e), api.ErrLimit)
			checkExpand(t, rep(0, 0, nested(count-1, bounds[0], bounds[1], a)), empty)
			checkExpand(t, cat(a, rep(2, 2, rep(0, 0, nested(count-3, bounds[0], bounds[1], a)))), cat(a, cat(empty, empty)))
		}
		if count >= 12 {
			checkExpandError(t, "nested repetitions", nested(count, 2, 2, a), api.ErrLimit)
		}
	}
	// Some of these numbers of nodes do not fit into an int, and would be negative.
	for count := 1; count <= 64; count++ {
		checkExpandError(t, "about 2^60 times a number", rep(count, count, powered(10)), api.ErrLimit)
		checkExpandError(t, "about 2^66 times a number", rep(0, count, powered(11)), api.ErrLimit)
	}
	checkExpandError(t, "many parts", cat(several(100, rep(64, 64, rep(64, 64, a)))...), api.ErrLimit)
	checkExpandError(t, "many alternatives", alt(several(64, rep(64, 64, a))...), api.ErrLimit)
	checkSizeOfExpanded(t, nested(11, 2, 2, a), 4095)
	checkSizeOfExpanded(t, rep(1, 1, nested(11, 2, 2, a)), 4095)
	checkSizeOfExpanded(t, rep(0, -1, nested(11, 2, 2, a)), 4096)
	checkExpandError(t, "4097 nodes", rep(0, -1, rep(0, 1, nested(11, 2, 2, a))), api.ErrLimit)
	checkExpand(t, nested(31, 1, 1, a), a)
	checkExpand(t, nested(31, 0, 0, a), empty)
}

// lists returns the lists of Args of a tree, by their first elements.
func lists(e *api.Re, found map[*api.Re]int) {
	if len(e.Args) > 0 {
		found[&e.Args[0]]++
	}
	for i := range e.Args {
		lists(&e.Args[i], found)
	}
}

// checkMemory checks that the result of Expand shares no memory with the argument, nor its parts with each other.
func checkMemory(t *testing.T, e api.Re) {
	t.Helper()
	got, err := retree.Expand(e)
	if err != api.OK {
		return
	}
	found := map[*api.Re]int{}
	lists(&e, found)
	lists(&got, found)
	for _, count := range found {
		if count > 1 {
			t.Fatalf("Expand(%s) returns memory that is shared", show(e))
		}
	}
}

func TestP8_6Memory(t *testing.T) {
	for _, e := range []api.Re{a, ab, group(1, a), rep(0, -1, ab), rep(1, 1, ab), rep(2, 2, ab), rep(0, 3, rep(3, -1, group(1, alt(a, b)))), cat(group(1, a), back(1))} {
		checkMemory(t, e)
	}
	for _, e := range validTrees(90, 1000, 5, 5) {
		checkMemory(t, e)
	}
	shared := rep(3, 4, alt(a, b))
	e := api.Re{Op: api.ReCat, Args: []api.Re{shared, shared}}
	got, _ := retree.Expand(e)
	got.Args[0].Args[0].Args[0] = end
	got.Args[1].Args[3].Args[0].Args[1] = begin
	x, y := alt(a, b), cat(alt(a, b), alt(a, b), alt(a, b), rep(0, 1, alt(a, b)))
	if !same(got, cat(cat(alt(end, b), x, x, rep(0, 1, x)), cat(x, x, x, rep(0, 1, alt(a, begin))))) {
		t.Errorf("changes of parts of the result give %s", show(got))
	}
	checkExpand(t, e, cat(y, y))
}

func TestP8_6ArgumentsAreKept(t *testing.T) {
	args := make([]api.Re, 2, 6)
	args[0], args[1] = rep(2, 2, a), group(1, rep(0, 3, b))
	e := api.Re{Op: api.ReCat, Args: args}
	optional := rep(0, 1, b)
	checkExpand(t, e, cat(cat(a, a), group(1, cat(optional, optional, optional))))
	for _, spare := range args[2:6] {
		if !same(spare, api.Re{}) {
			t.Errorf("Expand has written %s after its argument", show(spare))
		}
	}
}

func TestP8_6Definition(t *testing.T) {
	for _, e := range append(validTrees(91, 6000, 4, 4), validTrees(92, 6000, 6, 3)...) {
		// The definition builds the whole result, which can have very many nodes only if the size says so.
		if size := expandedNodes(small(e)); size > 100000 {
			checkExpandError(t, "a random tree", e, api.ErrLimit)
			continue
		}
		want := definedExpand(small(e))
		if countOf(want) > 4096 {
			checkExpandError(t, "a random tree", e, api.ErrLimit)
			continue
		}
		checkExpand(t, e, want)
	}
}

// expandedNodes returns an upper bound of the number of nodes of the expanded tree, as a float since it can be very great.
func expandedNodes(e api.Re) float64 {
	size := 1.0
	for _, part := range e.Args {
		size += expandedNodes(part)
	}
	if e.Op == api.ReRep {
		size *= float64(max(e.Lo, e.Hi) + 1)
	}
	return size
}

func TestP8_6NotValid(t *testing.T) {
	random := rand.New(rand.NewSource(93))
	for _, e := range validTrees(94, 3000, 5, 4) {
		e = disturbed(random, e)
		if want := definedCheck(e); want != api.OK {
			checkExpandError(t, "a disturbed tree", e, want)
		}
	}
}

func TestP8_6Examples(t *testing.T) {
	either := alt(b, cat(set("c"), set("d")))
	e := cat(a, rep(2, 3, either))
	checkSize(t, e, 8, 0, false)
	checkExpand(t, e, cat(a, cat(either, either, rep(0, 1, either))))
	checkSizeOfExpanded(t, e, 19)
}

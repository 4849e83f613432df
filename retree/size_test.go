package retree_test

import (
	"math/rand"
	"testing"

	"texttools/api"
	"texttools/retree"
)

// checkSize checks all that P8.2 says of a tree.
func checkSize(t *testing.T, e api.Re, size, groups int, back bool) {
	t.Helper()
	if gotSize, gotGroups, gotBack := retree.Size(e), retree.Groups(e), retree.Back(e); gotSize != size || gotGroups != groups || gotBack != back {
		t.Errorf("Size, Groups and Back of %.300s are %d, %d, %v; want %d, %d, %v", show(e), gotSize, gotGroups, gotBack, size, groups, back)
	}
}

// checkCounted checks P8.2 by counting nodes in their list.
func checkCounted(t *testing.T, e api.Re) {
	t.Helper()
	nodes := nodesOf(e, nil)
	groups, hasBack := 0, false
	for _, p := range nodes {
		if p.node.Op == api.ReGroup {
			groups++
		}
		hasBack = hasBack || p.node.Op == api.ReBack
	}
	checkSize(t, e, len(nodes), groups, hasBack)
}

func TestP8_2ValidTrees(t *testing.T) {
	checkSize(t, empty, 1, 0, false)
	checkSize(t, a, 1, 0, false)
	checkSize(t, begin, 1, 0, false)
	checkSize(t, end, 1, 0, false)
	checkSize(t, cat(a, b), 3, 0, false)
	checkSize(t, alt(a, b, empty), 4, 0, false)
	checkSize(t, rep(2, 3, a), 2, 0, false)
	checkSize(t, rep(0, 0, cat(a, b)), 4, 0, false)
	checkSize(t, group(1, a), 2, 1, false)
	checkSize(t, cat(group(1, a), back(1)), 4, 1, true)
	checkSize(t, cat(group(1, group(2, a)), alt(begin, rep(0, 0, back(2)))), 8, 2, true)
	checkSize(t, cat(rep(5, 5, group(1, a)), b), 5, 1, false)
	checkSize(t, cat(append(groups(9), back(1), back(2))...), 21, 9, true)
	checkSize(t, sized(600), 600, 0, false)
	checkSize(t, leveled(32, a), 63, 0, false)
	checkSize(t, cat(a, rep(2, 3, alt(b, cat(set("c"), set("d"))))), 8, 0, false)
}

func TestP8_2TreesThatAreNotValid(t *testing.T) {
	checkSize(t, api.Re{}, 1, 0, false)
	checkSize(t, api.Re{Op: 10, Lo: 5, Hi: 5, Group: 5}, 1, 0, false)
	checkSize(t, api.Re{Args: []api.Re{{}, {Op: -1}}}, 3, 0, false)
	checkSize(t, back(1), 1, 0, true)
	checkSize(t, back(-7), 1, 0, true)
	checkSize(t, api.Re{Op: api.ReBack, Args: []api.Re{a, group(5, a)}}, 4, 1, true)
	checkSize(t, api.Re{Op: api.ReSet, Args: []api.Re{a, back(0)}}, 3, 0, true)
	checkSize(t, api.Re{Op: api.ReEmpty, Args: []api.Re{group(1, a)}}, 3, 1, false)
	checkSize(t, api.Re{Op: api.ReGroup}, 1, 1, false)
	checkSize(t, api.Re{Op: api.ReGroup, Args: []api.Re{{Op: api.ReGroup}, {Op: api.ReGroup}}}, 3, 3, false)
	checkSize(t, cat(group(7, a), group(7, a), group(-7, a)), 7, 3, false)
	checkSize(t, api.Re{Op: api.ReCat}, 1, 0, false)
	checkSize(t, api.Re{Op: api.ReRep, Lo: 9, Hi: 2, Args: []api.Re{a, a, back(3)}}, 4, 0, true)
	checkSize(t, cat(append(groups(30), back(31))...), 62, 30, true)
	checkSize(t, cat(several(100000, a)...), 100001, 0, false)
	checkSize(t, cat(append(several(100000, group(1, a)), back(1))...), 200002, 100000, true)
	checkSize(t, nested(1<<16-1, 2, 1, back(0)), 1<<16, 0, true)
}

func TestP8_2SharedParts(t *testing.T) {
	e := cat(group(1, a), back(1))
	for range 18 {
		e = cat(e, e)
	}
	if size, groups, hasBack := retree.Size(e), retree.Groups(e), retree.Back(e); size != 5<<18-1 || groups != 1<<18 || !hasBack {
		t.Errorf("a tree of 2^18 equal parts has the size %d, %d groups and references: %v", size, groups, hasBack)
	}
}

func TestP8_2RandomTrees(t *testing.T) {
	random := rand.New(rand.NewSource(83))
	for _, e := range validTrees(84, 3000, 6, 64) {
		checkCounted(t, e)
		for range 4 {
			e = disturbed(random, e)
			checkCounted(t, e)
		}
	}
}
